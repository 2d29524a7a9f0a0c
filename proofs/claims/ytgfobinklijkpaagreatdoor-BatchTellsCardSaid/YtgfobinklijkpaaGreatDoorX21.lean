/-
  Texts H3 IA IG IH IP.
-/
import Derived.Deep.MidRow
import Derived.Test.YtgfobinklijkpaaGreatDoorX08
import Derived.Test.YtgfobinklijkpaaGreatDoorX09
import Derived.Test.YtgfobinklijkpaaGreatDoorX10
import Derived.Test.YtgfobinklijkpaaGreatDoorX11
import Derived.Test.YtgfobinklijkpaaGreatDoorX12
import Derived.Test.YtgfobinklijkpaaGreatDoorX13
import Derived.Test.YtgfobinklijkpaaGreatDoorX14
import Derived.Test.YtgfobinklijkpaaGreatDoorX19
import Derived.Test.YtgfobinklijkpaaGreatDoorX20
namespace Go.Proofs.YtgfobinklijkpaaGreatDoor
set_option maxRecDepth 100000
set_option maxHeartbeats 16000000
open Go.RowKit
def ndc (x : Nd) : List Value := [txt (nP x), txt (nV x), .int .i64 (nR x), .int .i64 (nO x)]
def nds (l : List Nd) : List Value := l.flatMap ndc
theorem nds_length : ∀ l : List Nd, (nds l).length = 4 * l.length
 | [] => rfl
 | x :: r => by
   have := nds_length r
   unfold nds at *
   rw [List.flatMap_cons, List.length_append, this, List.length_cons]
   show 4 + _ = _
   omega
theorem nds_append (a b : List Nd) : nds (a ++ b) = nds a ++ nds b := by simp [nds]
theorem nds_one (x : Nd) : nds [x] = ndc x := by simp [nds]
theorem nds_get : ∀ (l : List Nd) (j k : Nat), j < l.length → k < 4 → (nds l)[4 * j + k]? = (ndc (l.getD j nd0))[k]?
 | [], j, _, h, _ => by simp at h
 | x :: r, j, k, h, hk => by
   have e : nds (x :: r) = ndc x ++ nds r := by simp [nds]
   rw [e]
   cases j with
   | zero =>
     rw [List.getElem?_append_left (by show _ < 4; omega)]
     simp
   | succ j =>
     rw [List.getElem?_append_right (by show 4 ≤ _; omega)]
     have := nds_get r j k (by simpa using h) hk
     rw [show 4 * (j + 1) + k - (ndc x).length = 4 * j + k from by show _ - 4 = _; omega, this]
     simp
theorem ndc_get (x : Nd) (k : Nat) (hk : k < 4) : (ndc x)[k]? = some ((ndc x).getD k undef) := by
 match k, hk with
 | 0, _ => rfl
 | 1, _ => rfl
 | 2, _ => rfl
 | 3, _ => rfl
theorem nds_cell (l : List Nd) : ∀ u ∈ nds l, u.oneCell' = true := by
 intro u hu
 unfold nds at hu
 obtain ⟨x, _, h⟩ := List.mem_flatMap.1 hu
 unfold ndc at h
 simp only [List.mem_cons, List.not_mem_nil, or_false] at h
 rcases h with rfl | rfl | rfl | rfl <;> rfl
def RdNd (B : Nat) (w : World) (v : Value) (l : List Nd) : Prop :=
 ∃ A c, v = .slice A l.length c ∧ l.length ≤ c ∧ c ≤ maxLen ∧ (A = none → c = 0) ∧
   ∀ a, A = some a → (0 < l.length → a.block < B) ∧ ∀ j u, (nds l)[j]? = some u → w.cell? (a.add j) = some u
def OwnNd (e : TypeId) (w : World) (base : Nat) (v : Value) (l : List Nd) : Prop := w.ownsRow base e 4 v l.length (nds l)
theorem RdNd.keep {B : Nat} {w w' : World} {v : Value} {l : List Nd} (h : RdNd B w v l) (hk : ∀ p : Addr, p.block < B → w'.cell? p = w.cell? p) : RdNd B w' v l := by
 obtain ⟨A, c, hv, hc, hm, hn, hr⟩ := h
 refine ⟨A, c, hv, hc, hm, hn, fun a ha => ⟨(hr a ha).1, fun j u hu => ?_⟩⟩
 have hj : j < (nds l).length := (List.getElem?_eq_some_iff.1 hu).1
 rw [nds_length] at hj
 rw [hk _ (by rw [addr_block]; exact (hr a ha).1 (by omega))]
 exact (hr a ha).2 j u hu
theorem RdNd.below {B : Nat} {w w' : World} {v : Value} {l : List Nd} (h : RdNd B w v l) (hb : Below B w w') : RdNd B w' v l := h.keep fun _ hp => hb.cell hp
theorem RdNd.more {B B' : Nat} {w : World} {v : Value} {l : List Nd} (h : RdNd B w v l) (hB : B ≤ B') : RdNd B' w v l := by
 obtain ⟨A, c, hv, hc, hm, hn, hr⟩ := h
 exact ⟨A, c, hv, hc, hm, hn, fun a ha => ⟨fun h0 => Nat.lt_of_lt_of_le ((hr a ha).1 h0) hB, (hr a ha).2⟩⟩
theorem RdNd.nil (B : Nat) (w : World) : RdNd B w (.slice none 0 0) [] := ⟨none, 0, rfl, Nat.le_refl _, Nat.zero_le _, fun _ => rfl, fun _ h => by cases h⟩
theorem RdNd.shape {B : Nat} {w : World} {v : Value} {l : List Nd} (h : RdNd B w v l) : ∃ A c, v = .slice A l.length c ∧ l.length ≤ c ∧ c ≤ maxLen := by
 obtain ⟨A, c, hv, h1, h2, _⟩ := h
 exact ⟨A, c, hv, h1, h2⟩
theorem RdNd.at_ {B : Nat} {w : World} {A : Option Addr} {n c : Nat} {l : List Nd} (h : RdNd B w (.slice A n c) l) (j : Nat) (hj : j < l.length) :
 ∃ a, A = some a ∧ w.cell? (a.add (j * 4)) = some (txt (nP (l.getD j nd0))) ∧ w.cell? ⟨(a.add (j * 4)).block, (a.add (j * 4)).off + 1, none⟩ = some (txt (nV (l.getD j nd0))) ∧
   w.cell? ⟨(a.add (j * 4)).block, (a.add (j * 4)).off + 2, none⟩ = some (.int .i64 (nR (l.getD j nd0))) ∧ w.cell? ⟨(a.add (j * 4)).block, (a.add (j * 4)).off + 3, none⟩ = some (.int .i64 (nO (l.getD j nd0))) := by
 obtain ⟨A', c', hv, hc, hm, hn, hr⟩ := h
 injection hv with h1 h2 h3
 subst h1 h2 h3
 cases A with
 | none => have := hn rfl; omega
 | some a =>
   have hg : ∀ k, k < 4 → w.cell? ((a.add (j * 4)).add k) = some ((ndc (l.getD j nd0)).getD k undef) := by
    intro k hk
    rw [Addr.add_add, show j * 4 = 4 * j from Nat.mul_comm _ _]
    exact (hr a rfl).2 (4 * j + k) _ ((nds_get l j k hj hk).trans (ndc_get (l.getD j nd0) k hk))
   exact ⟨a, rfl, hg 0 (by decide), hg 1 (by decide), hg 2 (by decide), hg 3 (by decide)⟩
theorem OwnNd.rd {e : TypeId} {w : World} {base : Nat} {v : Value} {l : List Nd} (h : OwnNd e w base v l) : RdNd w.heap.size w v l := by
 rcases h.2 with ⟨rfl, hn⟩ | ⟨g, cap, cur, rfl, hb, hg, hnc, hm, _, _⟩
 ·have : l = [] := List.eq_nil_of_length_eq_zero hn
  subst this
  exact RdNd.nil _ _
 ·have hlt : g < w.heap.size := (Array.getElem?_eq_some_iff.1 hg).1
  refine ⟨some ⟨g, 0, none⟩, cap, rfl, hnc, hm, fun h => (by cases h), fun a ha => ?_⟩
  cases ha
  exact ⟨fun _ => hlt, fun j u hu => World.ownsRow.cells (g := g) h rfl j _ hu⟩
theorem OwnNd.below {e : TypeId} {w w' : World} {base B : Nat} {v : Value} {l : List Nd} (h : OwnNd e w base v l) (hb : Below B w w') (hB : w.heap.size ≤ B) : OwnNd e w' base v l := by
 refine ⟨h.1, ?_⟩
 rcases h.2 with hn | ⟨g, cap, cur, rfl, hg0, hg, r⟩
 ·exact .inl hn
 ·have hlt : g < w.heap.size := (Array.getElem?_eq_some_iff.1 hg).1
  exact .inr ⟨g, cap, cur, rfl, hg0, by rw [hb.block g (by omega)]; exact hg, r⟩
theorem OwnNd.base {e : TypeId} {w : World} {base base' : Nat} {v : Value} {l : List Nd} (h : OwnNd e w base v l) (hb : base' ≤ base) : OwnNd e w base' v l := by
 refine ⟨h.1, ?_⟩
 rcases h.2 with hn | ⟨g, cap, cur, rfl, hg0, r⟩
 ·exact .inl hn
 ·exact .inr ⟨g, cap, cur, rfl, by omega, r⟩
theorem OwnNd.nil (e : TypeId) (w : World) (base : Nat) : OwnNd e w base (.slice none 0 0) [] := World.ownsRow_nil w base e 4
theorem OwnNd.alloc {e : TypeId} {w : World} {base : Nat} {v : Value} {l : List Nd} (h : OwnNd e w base v l) (o : Obj) : OwnNd e (w.alloc o) base v l := World.ownsRow.alloc h o
theorem OwnNd.grown {e : TypeId} {w w' : World} {base : Nat} {v : Value} {l : List Nd} (h : OwnNd e w base v l) (hg : w.grownBy w' v.ownBlock) (hb : base ≤ w.heap.size) : Below base w w' :=
 (Below.refl base w).grown hg hb fun k hk => (World.ownsRow.lt h k hk).1
theorem OwnNd.empty (e : TypeId) (w : World) (base : Nat) (hb : base ≤ w.heap.size) : OwnNd e (w.alloc (.cells #[] e)) base (.slice (some ⟨w.heap.size, 0, none⟩) 0 0) [] :=
 World.ownsRow_made w #[] 0 hb (by decide) rfl
def ndz : Value := .agg #[.string ⟨#[]⟩, .string ⟨#[]⟩, .int .i64 0, .int .i64 0]
theorem wpList_appNd {P : Program} {w : World} {ops : Array Oper} {rest : List Oper} {o : Oper} {a : Act} {Q : Exit → Act → World → Prop}
 (hgd : o.guard = none) (s x : Operand) (t : TypeId) (ho : o.op = .call { callee := .builtin .append, args := #[s, x], argTypes := #[t, t] })
 (e : TypeId) (i : TypeInfo) (ht : P.underlying t = some (.slice e)) (hi : P.info? e = some i) (hz : i.zero = some ndz) (hsize : i.size = 4) (hby : i.bytes = 48)
 (base B : Nat) (v vx : Value) (l m : List Nd) (hs : a.eval s = v) (hown : OwnNd e w base v l) (hx : a.eval x = vx) (hr : RdNd B w vx m)
 (hlen : l.length + m.length ≤ 1000000) (hbase : base ≤ w.heap.size)
 (h : ∀ v' w', OwnNd e w' base v' (l ++ m) → Below base w w' → w.grownBy w' v.ownBlock → wpList P ops Q rest (a.put o.dst v') w') : wpList P ops Q (o :: rest) a w := by
 obtain ⟨A, c, hv, hc, hm, hn, hrr⟩ := hr
 cases A with
 | none =>
   have h0 : c = 0 := hn rfl
   have h1 : m.length = 0 := by omega
   have h2 : m = [] := List.eq_nil_of_length_eq_zero h1
   subst h0 h2
   refine wpList_append_own_none hgd s x t ho base e i 4 ht hi v l.length (nds l) hs hown (by rw [hx, hv]; rfl) ?_
   exact h v w (by rw [List.append_nil]; exact hown) (Below.refl _ _) ⟨rfl, rfl, rfl, Nat.le_refl _, fun _ _ _ => rfl⟩
 | some ad =>
   refine wpList_append_own w hgd s x t ho base e i ndz 4 48 ht hi hz hsize hby rfl (by decide) v l.length (nds l) hs hown ad m.length c (nds m) (by rw [hx, hv]) (by rw [nds_length]; omega) (hrr ad rfl).2 (nds_cell m) (by unfold maxLen; omega) (by omega) hbase ?_
   intro v' w' h1 h2 _
   refine h v' w' ?_ (OwnNd.grown hown h2 hbase) h2
   unfold OwnNd
   rw [List.length_append, nds_append]
   exact h1
theorem RdNd.node {B : Nat} {w : World} {a : Addr} {n c : Nat} {l : List Nd} (h : RdNd B w (.slice (some a) n c) l) (j : Nat) (hj : j < l.length) : ∀ k v, (ndc (l.getD j nd0))[k]? = some v → w.cell? ((a.add (j * 4)).add k) = some v := by
 intro k v hv
 have hk : k < 4 := (List.getElem?_eq_some_iff.1 hv).1
 obtain ⟨A', c', e, hc, hm, hn, hr⟩ := h
 injection e with h1 h2 h3
 subst h1 h2 h3
 rw [Addr.add_add, show j * 4 = 4 * j from Nat.mul_comm _ _]
 exact (hr a rfl).2 (4 * j + k) v ((nds_get l j k hj hk).trans hv)
abbrev RpV := Int × Int × Int × List UInt8 × Int × SlT
def rpv (x : Rp) (s : SlT) : RpV := (pC x, pQ x, pE x, pV x, pR x, s)
def rv0 : RpV := rpv rp0 sl0
def rvc (x : RpV) : List Value := [.int .i64 x.1, .int .i64 x.2.1, .int .i64 x.2.2.1, txt x.2.2.2.1, .int .i64 x.2.2.2.2.1, slv x.2.2.2.2.2]
theorem rvc_one (x : RpV) : ∀ u ∈ rvc x, u.oneCell' = true := by
 intro u hu
 unfold rvc at hu
 simp only [List.mem_cons, List.not_mem_nil, or_false] at hu
 rcases hu with rfl | rfl | rfl | rfl | rfl | rfl <;> rfl
def RvK : RowK RpV := { enc := rvc, k := 6, d := rv0, len := fun _ => rfl, one := rvc_one, pos := by decide }
def rvs (l : List Rp) (ss : List SlT) : List RpV := List.zipWith rpv l ss
theorem rvs_len {l : List Rp} {ss : List SlT} (h : ss.length = l.length) : (rvs l ss).length = l.length := by simp [rvs, h]
theorem rvs_at {l : List Rp} {ss : List SlT} (h : ss.length = l.length) (j : Nat) (hj : j < l.length) : (rvs l ss).getD j rv0 = rpv (l.getD j rp0) (ss.getD j sl0) := by
 unfold rvs
 simp [List.getD_eq_getElem?_getD, List.getElem?_zipWith, List.getElem?_eq_getElem hj, List.getElem?_eq_getElem (show j < ss.length by omega)]
theorem rvs_append {l m : List Rp} {ss tt : List SlT} (h : ss.length = l.length) : rvs (l ++ m) (ss ++ tt) = rvs l ss ++ rvs m tt := by
 unfold rvs
 rw [List.zipWith_append h.symm]
def RdRp (B : Nat) (w : World) (v : Value) (l : List Rp) : Prop :=
 ∃ ss : List SlT, ss.length = l.length ∧ RdE RvK B w v (rvs l ss) ∧ ∀ j, j < l.length → RdS B w (slv (ss.getD j sl0)) (pN (l.getD j rp0))
theorem RdRp.below {B : Nat} {w w' : World} {v : Value} {l : List Rp} (h : RdRp B w v l) (hb : Below B w w') : RdRp B w' v l := by
 obtain ⟨ss, h1, h2, h3⟩ := h
 exact ⟨ss, h1, h2.below hb, fun j hj => (h3 j hj).below hb⟩
theorem RdRp.more {B B' : Nat} {w : World} {v : Value} {l : List Rp} (h : RdRp B w v l) (hB : B ≤ B') : RdRp B' w v l := by
 obtain ⟨ss, h1, h2, h3⟩ := h
 exact ⟨ss, h1, h2.more hB, fun j hj => (h3 j hj).more hB⟩
theorem RdRp.nil (B : Nat) (w : World) : RdRp B w (.slice none 0 0) [] := ⟨[], rfl, RdE.nil _ _, fun _ h => by cases h⟩
theorem RdRp.shape {B : Nat} {w : World} {v : Value} {l : List Rp} (h : RdRp B w v l) : ∃ A c, v = .slice A l.length c ∧ l.length ≤ c ∧ c ≤ maxLen := by
 obtain ⟨ss, h1, h2, _⟩ := h
 have h3 := h2.shape
 rw [rvs_len h1] at h3
 exact h3
theorem RdRp.at_ {B : Nat} {w : World} {A : Option Addr} {n c : Nat} {l : List Rp} (h : RdRp B w (.slice A n c) l) (j : Nat) (hj : j < l.length) :
 ∃ a s, A = some a ∧ RdS B w (slv s) (pN (l.getD j rp0)) ∧ w.cell? (a.add (j * 6)) = some (.int .i64 (pC (l.getD j rp0))) ∧ w.cell? ⟨(a.add (j * 6)).block, (a.add (j * 6)).off + 1, none⟩ = some (.int .i64 (pQ (l.getD j rp0))) ∧
   w.cell? ⟨(a.add (j * 6)).block, (a.add (j * 6)).off + 2, none⟩ = some (.int .i64 (pE (l.getD j rp0))) ∧ w.cell? ⟨(a.add (j * 6)).block, (a.add (j * 6)).off + 3, none⟩ = some (txt (pV (l.getD j rp0))) ∧
   w.cell? ⟨(a.add (j * 6)).block, (a.add (j * 6)).off + 4, none⟩ = some (.int .i64 (pR (l.getD j rp0))) ∧ w.cell? ⟨(a.add (j * 6)).block, (a.add (j * 6)).off + 5, none⟩ = some (slv s) := by
 obtain ⟨ss, h1, h2, h3⟩ := h
 obtain ⟨a, ha, hc⟩ := h2.cells j (by rw [rvs_len h1]; exact hj)
 refine ⟨a, ss.getD j sl0, ha, h3 j hj, ?_⟩
 have e : (rvs l ss).getD j RvK.d = rpv (l.getD j rp0) (ss.getD j sl0) := rvs_at h1 j hj
 rw [e] at hc
 exact ⟨hc 0 (by decide), hc 1 (by decide), hc 2 (by decide), hc 3 (by decide), hc 4 (by decide), hc 5 (by decide)⟩
def OwnRp (e : TypeId) (w : World) (base B : Nat) (v : Value) (l : List Rp) : Prop :=
 ∃ ss : List SlT, ss.length = l.length ∧ OwnE RvK e w base v (rvs l ss) ∧ ∀ j, j < l.length → RdS B w (slv (ss.getD j sl0)) (pN (l.getD j rp0))
theorem OwnRp.rd {e : TypeId} {w : World} {base B : Nat} {v : Value} {l : List Rp} (h : OwnRp e w base B v l) (hb : B ≤ w.heap.size) : RdRp w.heap.size w v l := by
 obtain ⟨ss, h1, h2, h3⟩ := h
 exact ⟨ss, h1, h2.rd, fun j hj => (h3 j hj).more hb⟩
theorem OwnRp.below {e : TypeId} {w w' : World} {base B0 B : Nat} {v : Value} {l : List Rp} (h : OwnRp e w base B0 v l) (hb : Below B w w') (hB : w.heap.size ≤ B) (h0 : B0 ≤ w.heap.size) : OwnRp e w' base B0 v l := by
 obtain ⟨ss, h1, h2, h3⟩ := h
 exact ⟨ss, h1, h2.below hb hB, fun j hj => (h3 j hj).below (hb.mono (Nat.le_trans h0 hB))⟩
theorem OwnRp.empty (e : TypeId) (w : World) (base B : Nat) (hb : base ≤ w.heap.size) : OwnRp e (w.alloc (.cells #[] e)) base B (.slice (some ⟨w.heap.size, 0, none⟩) 0 0) [] :=
 ⟨[], rfl, OwnE.empty (E := RvK) e w base hb, fun _ h => by cases h⟩
def rmc (t : Int) (vN vS vW vL : Value) : List Value := [vN, .int .i64 t, vS, vW, vL]
structure RdRm (B : Nat) (w : World) (vN vS vW vL : Value) (r : Rm) : Prop where
 n : RdNd B w vN (mN r)
 s : RdE SeK B w vS (mS r)
 t : RdE WaK B w vW (mW r)
 l : RdRp B w vL (mL r)
theorem RdRm.below {B : Nat} {w w' : World} {vN vS vW vL : Value} {r : Rm} (h : RdRm B w vN vS vW vL r) (hb : Below B w w') : RdRm B w' vN vS vW vL r := ⟨h.n.below hb, h.s.below hb, h.t.below hb, h.l.below hb⟩
theorem RdRm.more {B B' : Nat} {w : World} {vN vS vW vL : Value} {r : Rm} (h : RdRm B w vN vS vW vL r) (hB : B ≤ B') : RdRm B' w vN vS vW vL r := ⟨h.n.more hB, h.s.more hB, h.t.more hB, h.l.more hB⟩
theorem rmc_all (t : Int) (A0 A1 A2 A3 : Option Addr) (n0 n1 n2 n3 c0 c1 c2 c3 : Nat) : (rmc t (.slice A0 n0 c0) (.slice A1 n1 c1) (.slice A2 n2 c2) (.slice A3 n3 c3)).toArray.all (·.oneCell') = true := by
 rw [Array.all_eq_true_iff_forall_mem]
 intro v hv
 simp only [rmc, List.mem_toArray, List.mem_cons, List.not_mem_nil, or_false] at hv
 rcases hv with rfl | rfl | rfl | rfl | rfl <;> rfl
theorem rowRmP : ∃ d, Tryz.prog.underlying 50 = some d ∧ d.isRow = true := ⟨_, Tryz.underlying50, rfl⟩
theorem szRmP : (Tryz.prog.info? 50).map (·.size) = some 5 := by kernel_rfl
theorem zeroRmP : (Tryz.prog.info? 50).map (·.zero) = some (some (.agg (rmc 0 (.slice none 0 0) (.slice none 0 0) (.slice none 0 0) (.slice none 0 0)).toArray)) := by kernel_rfl
def NdK : RowK Nd := { enc := ndc, k := 4, d := nd0, len := fun _ => rfl, one := fun x u hu => nds_cell [x] u (by rw [nds_one]; exact hu), pos := by decide }
def StK : RowK ByteArray := { enc := fun s => [.string s], k := 1, d := ⟨#[]⟩, len := fun _ => rfl, one := fun _ u hu => by simp only [List.mem_cons, List.not_mem_nil, or_false] at hu; subst hu; rfl, pos := by decide }
theorem RdNd.toE {B : Nat} {w : World} {v : Value} {l : List Nd} (h : RdNd B w v l) : RdE NdK B w v l := h
theorem RdNd.ofE {B : Nat} {w : World} {v : Value} {l : List Nd} (h : RdE NdK B w v l) : RdNd B w v l := h
theorem OwnNd.toE {e : TypeId} {w : World} {b : Nat} {v : Value} {l : List Nd} (h : OwnNd e w b v l) : OwnE NdK e w b v l := h
theorem OwnNd.ofE {e : TypeId} {w : World} {b : Nat} {v : Value} {l : List Nd} (h : OwnE NdK e w b v l) : OwnNd e w b v l := h
theorem rowsE_str : ∀ l : List ByteArray, rowsE StK l = strs l
 | [] => rfl
 | s :: r => by
   have := rowsE_str r
   unfold rowsE strs at *
   rw [List.flatMap_cons, this]
   rfl
theorem strs_at (l : List ByteArray) (j : Nat) (hj : j < l.length) : (rowsE StK l)[j]? = some (.string l[j]) := by
 rw [rowsE_str]
 unfold strs
 rw [List.getElem?_map, List.getElem?_eq_getElem hj]
 rfl
theorem RdS.toE {B : Nat} {w : World} {v : Value} {l : List ByteArray} (h : RdS B w v l) : RdE StK B w v l := by
 obtain ⟨A, c, hv, hc, hm, hn, hr⟩ := h
 refine ⟨A, c, hv, hc, hm, hn, fun a ha => ⟨(hr a ha).1, fun j u hu => ?_⟩⟩
 have hj : j < l.length := by
  have := (List.getElem?_eq_some_iff.1 hu).1
  rw [rowsE_length] at this
  exact Nat.lt_of_lt_of_eq this (Nat.mul_one _)
 rw [strs_at l j hj] at hu
 injection hu with hu
 subst hu
 exact (hr a ha).2 j hj
theorem RdS.ofE {B : Nat} {w : World} {v : Value} {l : List ByteArray} (h : RdE StK B w v l) : RdS B w v l := by
 obtain ⟨A, c, hv, hc, hm, hn, hr⟩ := h
 exact ⟨A, c, hv, hc, hm, hn, fun a ha => ⟨(hr a ha).1, fun j hj => (hr a ha).2 j _ (strs_at l j hj)⟩⟩
theorem OwnS.toE {e : TypeId} {w : World} {b : Nat} {v : Value} {l : List ByteArray} (h : OwnS e w b v l) : OwnE StK e w b v l := by
 unfold OwnE
 rw [rowsE_str]
 exact h
theorem OwnS.ofE {e : TypeId} {w : World} {b : Nat} {v : Value} {l : List ByteArray} (h : OwnE StK e w b v l) : OwnS e w b v l := by
 unfold OwnE at h
 rw [rowsE_str] at h
 exact h
def Lo (b : Nat) (v : Value) : Prop := ∀ a n c, v = .slice (some a) n c → 0 < n → a.block < b
theorem RdE.lo {α : Type} {E : RowK α} {b : Nat} {w : World} {v : Value} {l : List α} (h : RdE E b w v l) : Lo b v := by
 obtain ⟨A, c, rfl, _, _, _, hr⟩ := h
 intro a n c' e h0
 injection e with e1 e2 e3
 exact (hr a e1).1 (by omega)
theorem Lo.nil (b : Nat) : Lo b (.slice none 0 0) := fun _ _ _ e => by cases e
theorem Lo.more {b b' : Nat} {v : Value} (h : Lo b v) (hb : b ≤ b') : Lo b' v := fun a n c e h0 => Nat.lt_of_lt_of_le (h a n c e h0) hb
structure Keep (T : TypeId → Prop) (b : Nat) (w w' : World) : Prop where
 le : b ≤ w.heap.size
 size : w.heap.size ≤ w'.heap.size
 low : ∀ k : Nat, k < b → w'.heap[k]? = w.heap[k]?
 other : ∀ (k : Nat) (cs : Array Value) (e : TypeId) (fz : Nat × Nat), w.heap[k]? = some (Obj.cells cs e fz) → ¬ T e → w'.heap[k]? = w.heap[k]?
theorem Keep.trans {T : TypeId → Prop} {b : Nat} {w w' w'' : World} (h : Keep T b w w') (h' : Keep T b w' w'') : Keep T b w w'' :=
 ⟨h.le, Nat.le_trans h.size h'.size, fun k hk => (h'.low k hk).trans (h.low k hk), fun k cs e fz he hT => by
  have h1 := h.other k cs e fz he hT
  exact (h'.other k cs e fz (h1.trans he) hT).trans h1⟩
theorem Keep.of {T : TypeId → Prop} {b : Nat} {w w' : World} (hb : Below w.heap.size w w') (hs : b ≤ w.heap.size) : Keep T b w w' :=
 ⟨hs, hb.size, fun k hk => hb.block k (by omega), fun k cs e fz he _ => hb.block k (Array.getElem?_eq_some_iff.1 he).1⟩
theorem Keep.store {T : TypeId → Prop} {b g : Nat} {w w' : World} {cs : List Value} {t : TypeId} (hx : Blk w g cs t) (hT : T t) (hg : b ≤ g) (hs : w'.heap.size = w.heap.size) (ho : ∀ k, k ≠ g → w'.heap[k]? = w.heap[k]?) : Keep T b w w' := by
 have hlt := hx.lt
 refine ⟨by omega, by omega, fun k hk => ho k (by omega), fun k cs' e fz he hne => ho k fun e2 => ?_⟩
 subst e2
 unfold Blk at hx
 rw [hx] at he
 injection he with he
 injection he with _ h2
 exact hne (h2 ▸ hT)
theorem Keep.grown {α : Type} {E : RowK α} {T : TypeId → Prop} {b : Nat} {w w' : World} {t : TypeId} {v : Value} {l : List α} (hx : OwnE E t w b v l) (hT : T t) (hs : b ≤ w.heap.size) (hb : Below b w w') (hg : w.grownBy w' v.ownBlock) : Keep T b w w' := by
 refine ⟨hs, hb.size, fun k hk => hb.block k hk, fun k cs e fz he hne => ?_⟩
 refine hg.block k (Array.getElem?_eq_some_iff.1 he).1 fun e2 => ?_
 rcases hx.2 with ⟨rfl, _⟩ | ⟨g', cap', cur', rfl, _, h3, _⟩
 ·cases e2
 ·injection e2 with e2
  have e3 : k = g' := e2
  subst e3
  rw [he] at h3
  injection h3 with h3
  injection h3 with _ h4
  exact hne (h4 ▸ hT)
theorem RdE.lo_keep {α : Type} {E : RowK α} {b B B' : Nat} {w w' : World} {v : Value} {l : List α} (h : RdE E B w v l) (hl : Lo b v) (hk : ∀ k, k < b → w'.heap[k]? = w.heap[k]?) (hB : b ≤ B') : RdE E B' w' v l := by
 obtain ⟨A, c, rfl, hc, hm, hn, hr⟩ := h
 refine ⟨A, c, rfl, hc, hm, hn, fun a ha => ⟨fun h0 => Nat.lt_of_lt_of_le (hl a _ _ (by rw [ha]) h0) hB, fun j u hu => ?_⟩⟩
 have h0 : 0 < l.length := by
  cases l with
  | nil => simp [rowsE] at hu
  | cons x r => simp
 rw [cell_heap _ (hk _ (by rw [addr_block]; exact hl a _ _ (by rw [ha]) h0))]
 exact (hr a ha).2 j u hu
theorem OwnE.keep {α : Type} {E : RowK α} {T : TypeId → Prop} {e : TypeId} {b b' : Nat} {w w' : World} {v : Value} {l : List α} (h : OwnE E e w b v l) (hk : Keep T b' w w') (hT : ¬ T e) : OwnE E e w' b v l := by
 refine ⟨h.1, ?_⟩
 rcases h.2 with hn | ⟨g, cap, cur, rfl, hg0, hg1, r⟩
 ·exact .inl hn
 ·exact .inr ⟨g, cap, cur, rfl, hg0, by rw [hk.other g _ _ _ hg1 hT]; exact hg1, r⟩
theorem OwnE.swap {α : Type} {E : RowK α} {e : TypeId} {b B : Nat} {w : World} {v : Value} {l l' : List α} (h : OwnE E e w b v l) (hr : RdE E B w v l') : OwnE E e w b v l' := by
 obtain ⟨A, c, rfl, hc, hm, hn, h1⟩ := h.rd
 obtain ⟨A', c', he, _, _, _, h2⟩ := hr
 injection he with e1 e2 e3
 subst e1 e3
 have hq : rowsE E l' = rowsE E l := by
  cases A with
  | none =>
    have := hn rfl
    have z : l.length = 0 := by omega
    rw [List.eq_nil_of_length_eq_zero z, List.eq_nil_of_length_eq_zero (e2.symm.trans z)]
  | some a =>
    refine List.ext_getElem? fun j => ?_
    by_cases hj : j < (rowsE E l).length
    ·have hj' : j < (rowsE E l').length := by rw [rowsE_length] at hj ⊢; rw [← e2]; exact hj
     have u1 := (h1 a rfl).2 j _ (List.getElem?_eq_getElem hj)
     have u2 := (h2 a rfl).2 j _ (List.getElem?_eq_getElem hj')
     rw [List.getElem?_eq_getElem hj, List.getElem?_eq_getElem hj', ← u1, ← u2]
    ·have hj' : ¬ j < (rowsE E l').length := by rw [rowsE_length] at hj ⊢; rw [← e2]; exact hj
     rw [List.getElem?_eq_none (Nat.le_of_not_lt hj), List.getElem?_eq_none (Nat.le_of_not_lt hj')]
 unfold OwnE at h ⊢
 rw [hq, ← e2]
 exact h
def GoE {α : Type} (E : RowK α) (e : TypeId) (b : Nat) (w : World) (v : Value) (l : List α) : Prop := RdE E w.heap.size w v l ∧ (Lo b v ∨ OwnE E e w b v l)
theorem GoE.keep {α : Type} {E : RowK α} {T : TypeId → Prop} {e : TypeId} {b d : Nat} {w w' : World} {v : Value} {l : List α} (h : GoE E e b w v l) (hk : Keep T d w w') (hT : ¬ T e) (hd : b ≤ d) : GoE E e b w' v l := by
 rcases h.2 with h2 | h2
 ·exact ⟨h.1.lo_keep h2 (fun k hb => hk.low k (Nat.lt_of_lt_of_le hb hd)) (Nat.le_trans hd (Nat.le_trans hk.le hk.size)), .inl h2⟩
 ·have := h2.keep hk hT
  exact ⟨this.rd, .inr this⟩
theorem GoE.given {α : Type} {E : RowK α} {e : TypeId} {b : Nat} {w : World} {v : Value} {l : List α} (h : RdE E b w v l) (hb : b ≤ w.heap.size) : GoE E e b w v l := ⟨h.more hb, .inl h.lo⟩
theorem GoE.own {α : Type} {E : RowK α} {e : TypeId} {b b' : Nat} {w : World} {v : Value} {l : List α} (h : OwnE E e w b v l) (hb : b' ≤ b) : GoE E e b' w v l := ⟨h.rd, .inr (h.base hb)⟩
theorem GoE.nil {α : Type} (E : RowK α) (e : TypeId) (b : Nat) (w : World) : GoE E e b w (.slice none 0 0) [] := ⟨RdE.nil _ _, .inl (Lo.nil b)⟩
theorem GoE.next {α : Type} {E : RowK α} {e : TypeId} {b : Nat} {w w' : World} {v v0 : Value} {l l0 : List α} (h : GoE E e b w v0 l0) (hr : RdE E w'.heap.size w' v l) (ho : v = v0 ∨ OwnE E e w' w.heap.size v l) (hb : Below w.heap.size w w') (hs : b ≤ w.heap.size) : GoE E e b w' v l := by
 rcases ho with rfl | ho
 ·rcases h.2 with h2 | h2
  ·exact ⟨hr, .inl h2⟩
  ·exact ⟨hr, .inr ((h2.below hb (Nat.le_refl _)).swap hr)⟩
 ·exact ⟨hr, .inr (ho.base hs)⟩
theorem GoE.below {α : Type} {E : RowK α} {e : TypeId} {b : Nat} {w w' : World} {v : Value} {l : List α} (h : GoE E e b w v l) (hb : Below w.heap.size w w') (hs : b ≤ w.heap.size) : GoE E e b w' v l :=
 h.next ((h.1.below hb).more hb.size) (.inl rfl) hb hs
theorem GoE.but {α : Type} {E : RowK α} {e : TypeId} {b g : Nat} {w w' : World} {v : Value} {l : List α} (h : GoE E e b w v l) (hb : b ≤ g) (hs : w'.heap.size = w.heap.size) (hw : b ≤ w.heap.size) (ho : ∀ k : Nat, k ≠ g → w'.heap[k]? = w.heap[k]?) (hne : 0 < l.length → v.ownBlock ≠ some g) : GoE E e b w' v l := by
 rcases Nat.eq_zero_or_pos l.length with h0 | h0
 ·have hl := List.eq_nil_of_length_eq_zero h0
  subst hl
  obtain ⟨A, c, rfl, hc, hm, hn, _⟩ := h.1
  refine ⟨⟨A, c, rfl, hc, hm, hn, fun a ha => ⟨fun h1 => absurd h1 (by simp), fun j u hu => by simp [rowsE] at hu⟩⟩, .inl fun a n c' e h1 => ?_⟩
  injection e with _ e2 _
  simp at e2
  omega
 ·rcases h.2 with h2 | h2
  ·exact ⟨h.1.lo_keep h2 (fun k hk => ho k (by omega)) (by omega), .inl h2⟩
  ·have h3 : OwnE E e w' b v l := ownsRow_but h2 (hne h0) ho
   exact ⟨h3.rd, .inr h3⟩
def GoRp (e es : TypeId) (b : Nat) (w : World) (v : Value) (l : List Rp) : Prop :=
 ∃ ss : List SlT, ss.length = l.length ∧ GoE RvK e b w v (rvs l ss) ∧ ∀ j, j < l.length → GoE StK es b w (slv (ss.getD j sl0)) (pN (l.getD j rp0))
theorem GoRp.keep {T : TypeId → Prop} {e es : TypeId} {b d : Nat} {w w' : World} {v : Value} {l : List Rp} (h : GoRp e es b w v l) (hk : Keep T d w w') (hT : ¬ T e) (hS : ¬ T es) (hd : b ≤ d) : GoRp e es b w' v l := by
 obtain ⟨ss, h1, h2, h3⟩ := h
 exact ⟨ss, h1, h2.keep hk hT hd, fun j hj => (h3 j hj).keep hk hS hd⟩
theorem GoRp.rd {e es : TypeId} {b : Nat} {w : World} {v : Value} {l : List Rp} (h : GoRp e es b w v l) : RdRp w.heap.size w v l := by
 obtain ⟨ss, h1, h2, h3⟩ := h
 exact ⟨ss, h1, h2.1, fun j hj => RdS.ofE (h3 j hj).1⟩
theorem GoRp.given {e es : TypeId} {b : Nat} {w : World} {v : Value} {l : List Rp} (h : RdRp b w v l) (hb : b ≤ w.heap.size) : GoRp e es b w v l := by
 obtain ⟨ss, h1, h2, h3⟩ := h
 exact ⟨ss, h1, .given h2 hb, fun j hj => .given (h3 j hj).toE hb⟩
theorem GoRp.below {e es : TypeId} {b : Nat} {w w' : World} {v : Value} {l : List Rp} (h : GoRp e es b w v l) (hb : Below w.heap.size w w') (hs : b ≤ w.heap.size) : GoRp e es b w' v l := by
 obtain ⟨ss, h1, h2, h3⟩ := h
 exact ⟨ss, h1, h2.below hb hs, fun j hj => (h3 j hj).below hb hs⟩
theorem GoRp.nil (e es : TypeId) (b : Nat) (w : World) : GoRp e es b w (.slice none 0 0) [] := ⟨[], rfl, GoE.nil _ _ _ _, fun _ h => by cases h⟩
def putL : List Value → Nat → List Value → List Value
 | cs, _, [] => cs
 | cs, j, v :: r => putL (cs.set j v) (j + 1) r
theorem Blk.puts {g : Nat} {u : TypeId} : ∀ (vs : List Value) (j : Nat) (w : World) (cs : List Value), Blk w g cs u → Blk (w.setCells g j vs) g (putL cs j vs) u
 | [], _, _, _, h => h
 | v :: r, j, _, _, h => Blk.puts r (j + 1) _ _ (h.set j v)
theorem Blk.thereP {w : World} {g : Nat} {cs : List Value} {u : TypeId} (h : Blk w g cs u) (j n : Nat) (hj : j + n ≤ cs.length) : w.there g j n := fun i hi => by
 rw [h.cell (j + i), List.getElem?_eq_getElem (show j + i < cs.length by omega)]
 exact ⟨rfl, h.frozen (j + i)⟩
theorem wpList_store_part {P : Program} {w : World} {ops : Array Oper} {rest : List Oper} {o : Oper} {a : Act} {Q : Exit → Act → World → Prop} (hg : o.guard = none) (t : TypeId) (x y : Operand) (ho : o.op = .store t x y) (g j : Nat) (cs vs : List Value) (u : TypeId)
 (hx : a.eval x = .pointer (some ⟨g, j, none⟩)) (hy : a.eval y = .agg vs.toArray) (hb : Blk w g cs u) (hi : (P.info? t).map (·.size) = some vs.length) (hj : j + vs.length ≤ cs.length) (h1 : vs.toArray.all (·.oneCell') = true)
 (h : ∀ w', Blk w' g (putL cs j vs) u → w'.heap.size = w.heap.size → Below g w w' → (∀ k, k ≠ g → w'.heap[k]? = w.heap[k]?) → wpList P ops Q rest (a.put o.dst undef) w') : wpList P ops Q (o :: rest) a w := by
 refine wpList_store_mid hg t x y ho g j vs.toArray hx hy (by simpa using hb.thereP j vs.length hj) (by simpa using hi) h1 ?_
 exact h _ (Blk.puts vs j w cs hb) (setCells_sizeE g vs j w) (below_setCellsE (Nat.le_refl g) vs j w (Below.refl g w)) (fun k hne => setCells_otherE g vs j w k hne)
theorem wpList_load_part {P : Program} {w : World} {ops : Array Oper} {rest : List Oper} {o : Oper} {a : Act} {Q : Exit → Act → World → Prop} (hg : o.guard = none) (t : TypeId) (x : Operand) (ho : o.op = .load t x) (g j : Nat) (cs vs : List Value) (u : TypeId)
 (hx : a.eval x = .pointer (some ⟨g, j, none⟩)) (hb : Blk w g cs u) (hv : (cs.drop j).take vs.length = vs) {d : TypeDesc} (hu : P.underlying t = some d) (hd : d.isRow = true) (hi : (P.info? t).map (·.size) = some vs.length)
 (h : wpList P ops Q rest (a.put o.dst (.agg vs.toArray)) w) : wpList P ops Q (o :: rest) a w := by
 refine wpList_load_mid hg t x ho g j hx vs d (fun i v hv2 => ?_) hu hd hi h
 rw [hb.cell (j + i), ← List.getElem?_drop]
 rw [← hv] at hv2
 rw [List.getElem?_take] at hv2
 split at hv2
 ·exact hv2
 ·cases hv2
abbrev AscR (l : List Rp) : Prop := l.Pairwise fun x y => pC x < pC y
def posR (l : List Rp) (c : Int) : Nat := l.findIdx fun x => decide (c ≤ pC x)
theorem posR_le (l : List Rp) (c : Int) : posR l c ≤ l.length := List.findIdx_le_length
theorem posR_cons (x : Rp) (r : List Rp) (c : Int) : posR (x :: r) c = if c ≤ pC x then 0 else posR r c + 1 := by
 unfold posR
 rw [List.findIdx_cons]
 by_cases h : c ≤ pC x
 ·simp [h]
 ·simp [h]
theorem posR_at : ∀ (l : List Rp) (c : Int), AscR l → ∀ i, i < l.length → (pC (l.getD i rp0) < c ↔ i < posR l c)
 | [], _, _, i, h => by cases h
 | x :: r, c, h, i, hi => by
   obtain ⟨h1, h2⟩ := List.pairwise_cons.1 h
   rw [posR_cons]
   by_cases hx : c ≤ pC x
   ·rw [if_pos hx]
    refine iff_of_false ?_ (by omega)
    cases i with
    | zero =>
      show ¬ pC x < c
      omega
    | succ i =>
      have hi2 : i < r.length := by simpa using hi
      have hm : r.getD i rp0 ∈ r := by
       rw [List.getD_eq_getElem?_getD, List.getElem?_eq_getElem hi2]
       exact List.getElem_mem _
      have := h1 _ hm
      show ¬ pC (r.getD i rp0) < c
      omega
   ·rw [if_neg hx]
    cases i with
    | zero => exact iff_of_true (show pC x < c by omega) (by omega)
    | succ i =>
      have := posR_at r c h2 i (by simpa using hi)
      show pC (r.getD i rp0) < c ↔ _
      rw [this]
      omega
theorem lastR_not : ∀ (l : List Rp) (c : Int), (∀ y ∈ l, pC y ≠ c) → lastR l c = (rp0, false)
 | [], _, _ => rfl
 | x :: r, c, h => by
   unfold lastR
   rw [if_neg (h x (by simp)), lastR_not r c fun y hy => h y (by simp [hy])]
theorem lastR_pos : ∀ (l : List Rp) (c : Int), AscR l → lastR l c = if posR l c < l.length ∧ pC (l.getD (posR l c) rp0) = c then (l.getD (posR l c) rp0, true) else (rp0, false)
 | [], _, _ => rfl
 | x :: r, c, h => by
   obtain ⟨h1, h2⟩ := List.pairwise_cons.1 h
   rw [posR_cons]
   rcases Int.lt_trichotomy c (pC x) with hx | hx | hx
   ·rw [if_pos (show c ≤ pC x by omega), lastR_not, if_neg]
    ·rintro ⟨_, h3⟩
     have : pC x = c := h3
     omega
    ·intro y hy
     rcases List.mem_cons.1 hy with rfl | hy
     ·omega
     ·have := h1 y hy
      omega
   ·rw [if_pos (show c ≤ pC x by omega), lastR, if_pos hx.symm, if_pos ⟨by simp, hx.symm⟩]
    rfl
   ·rw [if_neg (show ¬ c ≤ pC x by omega), lastR, if_neg (show ¬ pC x = c by omega), lastR_pos r c h2]
    show _ = if posR r c + 1 < (x :: r).length ∧ pC (r.getD (posR r c) rp0) = c then (r.getD (posR r c) rp0, true) else (rp0, false)
    simp only [List.length_cons, Nat.add_lt_add_iff_right]
theorem seenR_pos (x : Rp) : ∀ (l : List Rp), AscR l → seenR x false l = if posR l (pC x) < l.length ∧ pC (l.getD (posR l (pC x)) rp0) = pC x then l.set (posR l (pC x)) x else insE l x (posR l (pC x))
 | [], _ => rfl
 | y :: r, hp => by
   obtain ⟨h1, h2⟩ := List.pairwise_cons.1 hp
   rw [posR_cons]
   rcases Int.lt_trichotomy (pC x) (pC y) with h | h | h
   ·rw [seenR_far x (y :: r) (fun z hz => by rcases List.mem_cons.1 hz with rfl | hz; exact h; exact Int.lt_trans h (h1 z hz)), if_pos (show pC x ≤ pC y by omega), if_neg]
    ·rfl
    ·rintro ⟨_, h3⟩
     have : pC y = pC x := h3
     omega
   ·have hf : r.filter (fun z => decide (pC z ≠ pC x)) = r := by
     rw [List.filter_eq_self]
     intro z hz
     have := h1 z hz
     simp
     omega
    have e : seenR x false (y :: r) = x :: r := by
     unfold seenR
     rw [if_pos ⟨rfl, by omega⟩, if_neg (by simp [h]), show (false || decide (pC x ≤ pC y)) = true by simp; omega, seenR_done, hf]
     rfl
    rw [e, if_pos (show pC x ≤ pC y by omega), if_pos ⟨by simp, h.symm⟩]
    rfl
   ·have e : seenR x false (y :: r) = y :: seenR x false r := by
     rw [seenR, if_neg (by omega), if_pos (by omega), show (false || decide (pC x ≤ pC y)) = false by simp; omega]
     rfl
    rw [e, if_neg (show ¬ pC x ≤ pC y by omega), seenR_pos x r h2]
    show _ = if posR r (pC x) + 1 < (y :: r).length ∧ pC (r.getD (posR r (pC x)) rp0) = pC x then (y :: r).set (posR r (pC x) + 1) x else insE (y :: r) x (posR r (pC x) + 1)
    simp only [List.length_cons, Nat.add_lt_add_iff_right]
    split
    ·rfl
    ·rfl
end Go.Proofs.YtgfobinklijkpaaGreatDoor
