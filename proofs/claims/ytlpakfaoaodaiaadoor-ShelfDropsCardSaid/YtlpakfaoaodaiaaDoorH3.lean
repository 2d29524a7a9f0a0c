/-
  Nodes in memory: rows of nodes that a slice reads as, and rows of a call's own; append of one node. Each theorem states its own conditions.
  The document's shelves: a node's place.
  The document's shelves: Get.
-/
import Derived.Test.YtlpakfaoaodaiaaDoorHA
import Derived.Test.YtlpakfaoaodaiaaDoorQA
namespace Go.Proofs.YtlpakfaoaodaiaaDoor
open Go.RowKit

/-- A node's cells. -/
def ndc (x : Nd) : List Value := [txt (nP x), txt (nV x), .int .i64 (nR x), .int .i64 (nO x)]
def nds (l : List Nd) : List Value := l.flatMap ndc
theorem nds_length : ∀ l : List Nd, (nds l).length = 4 * l.length
  | [] => rfl
  | x :: r => by
    have := nds_length r
    unfold nds at *
    rw [List.flatMap_cons, List.length_append, this, List.length_cons]
    show 4 + _ = _
    omega
theorem nds_append (a b : List Nd) : nds (a ++ b) = nds a ++ nds b := by simp [nds]
theorem nds_one (x : Nd) : nds [x] = ndc x := by simp [nds]
theorem nds_get : ∀ (l : List Nd) (j k : Nat), j < l.length → k < 4 → (nds l)[4 * j + k]? = (ndc (l.getD j nd0))[k]?
  | [], j, _, h, _ => by simp at h
  | x :: r, j, k, h, hk => by
    have e : nds (x :: r) = ndc x ++ nds r := by simp [nds]
    rw [e]
    cases j with
    | zero =>
      rw [List.getElem?_append_left (by show _ < 4; omega)]
      simp
    | succ j =>
      rw [List.getElem?_append_right (by show 4 ≤ _; omega)]
      have := nds_get r j k (by simpa using h) hk
      rw [show 4 * (j + 1) + k - (ndc x).length = 4 * j + k from by show _ - 4 = _; omega, this]
      simp
theorem ndc_get (x : Nd) (k : Nat) (hk : k < 4) : (ndc x)[k]? = some ((ndc x).getD k undef) := by
  match k, hk with
  | 0, _ => rfl
  | 1, _ => rfl
  | 2, _ => rfl
  | 3, _ => rfl
theorem nds_cell (l : List Nd) : ∀ u ∈ nds l, u.oneCell' = true := by
  intro u hu
  unfold nds at hu
  obtain ⟨x, _, h⟩ := List.mem_flatMap.1 hu
  unfold ndc at h
  simp only [List.mem_cons, List.not_mem_nil, or_false] at h
  rcases h with rfl | rfl | rfl | rfl <;> rfl

/-- The slice value v reads as the nodes l; it lies below block B. Nil reads as none. -/
def RdNd (B : Nat) (w : World) (v : Value) (l : List Nd) : Prop :=
  ∃ A c, v = .slice A l.length c ∧ l.length ≤ c ∧ c ≤ maxLen ∧ (A = none → c = 0) ∧
    ∀ a, A = some a → (0 < l.length → a.block < B) ∧ ∀ j u, (nds l)[j]? = some u → w.cell? (a.add j) = some u
/-- The call owns the slice value v of nodes, from block 'base' on. -/
def OwnNd (e : TypeId) (w : World) (base : Nat) (v : Value) (l : List Nd) : Prop := w.ownsRow base e 4 v l.length (nds l)

theorem RdNd.keep {B : Nat} {w w' : World} {v : Value} {l : List Nd} (h : RdNd B w v l) (hk : ∀ p : Addr, p.block < B → w'.cell? p = w.cell? p) : RdNd B w' v l := by
  obtain ⟨A, c, hv, hc, hm, hn, hr⟩ := h
  refine ⟨A, c, hv, hc, hm, hn, fun a ha => ⟨(hr a ha).1, fun j u hu => ?_⟩⟩
  have hj : j < (nds l).length := (List.getElem?_eq_some_iff.1 hu).1
  rw [nds_length] at hj
  rw [hk _ (by rw [addr_block]; exact (hr a ha).1 (by omega))]
  exact (hr a ha).2 j u hu
theorem RdNd.below {B : Nat} {w w' : World} {v : Value} {l : List Nd} (h : RdNd B w v l) (hb : Below B w w') : RdNd B w' v l := h.keep fun _ hp => hb.cell hp
theorem RdNd.more {B B' : Nat} {w : World} {v : Value} {l : List Nd} (h : RdNd B w v l) (hB : B ≤ B') : RdNd B' w v l := by
  obtain ⟨A, c, hv, hc, hm, hn, hr⟩ := h
  exact ⟨A, c, hv, hc, hm, hn, fun a ha => ⟨fun h0 => Nat.lt_of_lt_of_le ((hr a ha).1 h0) hB, (hr a ha).2⟩⟩
theorem RdNd.nil (B : Nat) (w : World) : RdNd B w (.slice none 0 0) [] := ⟨none, 0, rfl, Nat.le_refl _, Nat.zero_le _, fun _ => rfl, fun _ h => by cases h⟩
theorem RdNd.shape {B : Nat} {w : World} {v : Value} {l : List Nd} (h : RdNd B w v l) : ∃ A c, v = .slice A l.length c ∧ l.length ≤ c ∧ c ≤ maxLen := by
  obtain ⟨A, c, hv, h1, h2, _⟩ := h
  exact ⟨A, c, hv, h1, h2⟩
/-- The cells of a node: where there is one, the address is there. -/
theorem RdNd.at_ {B : Nat} {w : World} {A : Option Addr} {n c : Nat} {l : List Nd} (h : RdNd B w (.slice A n c) l) (j : Nat) (hj : j < l.length) :
    ∃ a, A = some a ∧ w.cell? (a.add (j * 4)) = some (txt (nP (l.getD j nd0))) ∧ w.cell? ⟨(a.add (j * 4)).block, (a.add (j * 4)).off + 1, none⟩ = some (txt (nV (l.getD j nd0))) ∧
      w.cell? ⟨(a.add (j * 4)).block, (a.add (j * 4)).off + 2, none⟩ = some (.int .i64 (nR (l.getD j nd0))) ∧ w.cell? ⟨(a.add (j * 4)).block, (a.add (j * 4)).off + 3, none⟩ = some (.int .i64 (nO (l.getD j nd0))) := by
  obtain ⟨A', c', hv, hc, hm, hn, hr⟩ := h
  injection hv with h1 h2 h3
  subst h1 h2 h3
  cases A with
  | none => have := hn rfl; omega
  | some a =>
    have hg : ∀ k, k < 4 → w.cell? ((a.add (j * 4)).add k) = some ((ndc (l.getD j nd0)).getD k undef) := by
      intro k hk
      rw [Addr.add_add, show j * 4 = 4 * j from Nat.mul_comm _ _]
      exact (hr a rfl).2 (4 * j + k) _ ((nds_get l j k hj hk).trans (ndc_get (l.getD j nd0) k hk))
    exact ⟨a, rfl, hg 0 (by decide), hg 1 (by decide), hg 2 (by decide), hg 3 (by decide)⟩

theorem OwnNd.rd {e : TypeId} {w : World} {base : Nat} {v : Value} {l : List Nd} (h : OwnNd e w base v l) : RdNd w.heap.size w v l := by
  rcases h.2 with ⟨rfl, hn⟩ | ⟨g, cap, cur, rfl, hb, hg, hnc, hm, _, _⟩
  · have : l = [] := List.eq_nil_of_length_eq_zero hn
    subst this
    exact RdNd.nil _ _
  · have hlt : g < w.heap.size := (Array.getElem?_eq_some_iff.1 hg).1
    refine ⟨some ⟨g, 0, none⟩, cap, rfl, hnc, hm, fun h => (by cases h), fun a ha => ?_⟩
    cases ha
    exact ⟨fun _ => hlt, fun j u hu => World.ownsRow.cells (g := g) h rfl j _ hu⟩
theorem OwnNd.below {e : TypeId} {w w' : World} {base B : Nat} {v : Value} {l : List Nd} (h : OwnNd e w base v l) (hb : Below B w w') (hB : w.heap.size ≤ B) : OwnNd e w' base v l := by
  refine ⟨h.1, ?_⟩
  rcases h.2 with hn | ⟨g, cap, cur, rfl, hg0, hg, r⟩
  · exact .inl hn
  · have hlt : g < w.heap.size := (Array.getElem?_eq_some_iff.1 hg).1
    exact .inr ⟨g, cap, cur, rfl, hg0, by rw [hb.block g (by omega)]; exact hg, r⟩
theorem OwnNd.base {e : TypeId} {w : World} {base base' : Nat} {v : Value} {l : List Nd} (h : OwnNd e w base v l) (hb : base' ≤ base) : OwnNd e w base' v l := by
  refine ⟨h.1, ?_⟩
  rcases h.2 with hn | ⟨g, cap, cur, rfl, hg0, r⟩
  · exact .inl hn
  · exact .inr ⟨g, cap, cur, rfl, by omega, r⟩
theorem OwnNd.nil (e : TypeId) (w : World) (base : Nat) : OwnNd e w base (.slice none 0 0) [] := World.ownsRow_nil w base e 4
theorem OwnNd.alloc {e : TypeId} {w : World} {base : Nat} {v : Value} {l : List Nd} (h : OwnNd e w base v l) (o : Obj) : OwnNd e (w.alloc o) base v l := World.ownsRow.alloc h o
theorem OwnNd.grown {e : TypeId} {w w' : World} {base : Nat} {v : Value} {l : List Nd} (h : OwnNd e w base v l) (hg : w.grownBy w' v.ownBlock) (hb : base ≤ w.heap.size) : Below base w w' :=
  (Below.refl base w).grown hg hb fun k hk => (World.ownsRow.lt h k hk).1
theorem OwnNd.empty (e : TypeId) (w : World) (base : Nat) (hb : base ≤ w.heap.size) : OwnNd e (w.alloc (.cells #[] e)) base (.slice (some ⟨w.heap.size, 0, none⟩) 0 0) [] :=
  World.ownsRow_made w #[] 0 hb (by decide) rfl

def ndz : Value := .agg #[.string ⟨#[]⟩, .string ⟨#[]⟩, .int .i64 0, .int .i64 0]
/-- append of nodes onto nodes that are owned. -/
theorem wpList_appNd {P : Program} {w : World} {ops : Array Oper} {rest : List Oper} {o : Oper} {a : Act} {Q : Exit → Act → World → Prop}
    (hgd : o.guard = none) (s x : Operand) (t : TypeId) (ho : o.op = .call { callee := .builtin .append, args := #[s, x], argTypes := #[t, t] })
    (e : TypeId) (i : TypeInfo) (ht : P.underlying t = some (.slice e)) (hi : P.info? e = some i) (hz : i.zero = some ndz) (hsize : i.size = 4) (hby : i.bytes = 48)
    (base B : Nat) (v vx : Value) (l m : List Nd) (hs : a.eval s = v) (hown : OwnNd e w base v l) (hx : a.eval x = vx) (hr : RdNd B w vx m)
    (hlen : l.length + m.length ≤ 1000000) (hbase : base ≤ w.heap.size)
    (h : ∀ v' w', OwnNd e w' base v' (l ++ m) → Below base w w' → w.grownBy w' v.ownBlock → wpList P ops Q rest (a.put o.dst v') w') : wpList P ops Q (o :: rest) a w := by
  obtain ⟨A, c, hv, hc, hm, hn, hrr⟩ := hr
  cases A with
  | none =>
    have h0 : c = 0 := hn rfl
    have h1 : m.length = 0 := by omega
    have h2 : m = [] := List.eq_nil_of_length_eq_zero h1
    subst h0 h2
    refine wpList_append_own_none hgd s x t ho base e i 4 ht hi v l.length (nds l) hs hown (by rw [hx, hv]; rfl) ?_
    exact h v w (by rw [List.append_nil]; exact hown) (Below.refl _ _) ⟨rfl, rfl, rfl, Nat.le_refl _, fun _ _ _ => rfl⟩
  | some ad =>
    refine wpList_append_own w hgd s x t ho base e i ndz 4 48 ht hi hz hsize hby rfl (by decide) v l.length (nds l) hs hown ad m.length c (nds m) (by rw [hx, hv]) (by rw [nds_length]; omega) (hrr ad rfl).2 (nds_cell m) (by unfold maxLen; omega) (by omega) hbase ?_
    intro v' w' h1 h2 _
    refine h v' w' ?_ (OwnNd.grown hown h2 hbase) h2
    unfold OwnNd
    rw [List.length_append, nds_append]
    exact h1

/-- A node is read, wherever it lies. -/
theorem run_load_nd {P : Program} {w : World} (ty : TypeId) (ad : Addr) (nd : Nd) (hc : ∀ j v, (ndc nd)[j]? = some v → w.cell? (ad.add j) = some v) (d : TypeDesc) (hu : P.underlying ty = some d) (hd : d.isRow = true) (hi : (P.info? ty).map (·.size) = some 4) :
    (loadVar ty ad).run P w = .ok (.agg (ndc nd).toArray) w := by
  have hl : (loadCells ad 4).run P w = .ok (ndc nd).toArray w := run_loadCells_list (P := P) w ad (ndc nd) hc
  cases hq : P.info? ty with
  | none => simp [hq] at hi
  | some i =>
    have hs : i.size = 4 := by simpa [hq] using hi
    have hagg : (isAgg ty).run P w = .ok true w := by
      unfold isAgg
      rw [Sem.run_bind, run_underlying hu w]
      cases d <;> first | rfl | cases hd
    simp [loadVar, Sem.run_bind, hagg, sizeOf, typeInfo, hq, hs, hl]
theorem wpList_load_nd {P : Program} {w : World} {ops : Array Oper} {rest : List Oper} {o : Oper} {a : Act} {Q : Exit → Act → World → Prop} (hgd : o.guard = none) (ty : TypeId) (x : Operand) (ho : o.op = .load ty x)
    (ad : Addr) (hx : a.eval x = .pointer (some ad)) (nd : Nd) (hc : ∀ j v, (ndc nd)[j]? = some v → w.cell? (ad.add j) = some v) (d : TypeDesc) (hu : P.underlying ty = some d) (hd : d.isRow = true) (hi : (P.info? ty).map (·.size) = some 4)
    (h : wpList P ops Q rest (a.put o.dst (.agg (ndc nd).toArray)) w) : wpList P ops Q (o :: rest) a w := by
  refine wpList_plain hgd fun _ hK => ?_
  unfold Oper.wp execOp
  simp only [ho, hx, Instr.loadAt, Instr.sureAddr, Sem.run_bind, Sem.run_pure, Result.andThen_ok, run_load_nd ty ad nd hc d hu hd hi]
  exact hK _ _ h
theorem RdNd.node {B : Nat} {w : World} {a : Addr} {n c : Nat} {l : List Nd} (h : RdNd B w (.slice (some a) n c) l) (j : Nat) (hj : j < l.length) : ∀ k v, (ndc (l.getD j nd0))[k]? = some v → w.cell? ((a.add (j * 4)).add k) = some v := by
  intro k v hv
  have hk : k < 4 := (List.getElem?_eq_some_iff.1 hv).1
  obtain ⟨A', c', e, hc, hm, hn, hr⟩ := h
  injection e with h1 h2 h3
  subst h1 h2 h3
  rw [Addr.add_add, show j * 4 = 4 * j from Nat.mul_comm _ _]
  exact (hr a rfl).2 (4 * j + k) v ((nds_get l j k hj hk).trans hv)
end Go.Proofs.YtlpakfaoaodaiaaDoor

namespace Go.Proofs.YtlpakfaoaodaiaaDoor
open Go.RowKit

def atI (l : List Nd) (p : List UInt8) : Int := if hasN l p = true then (placeN l p : Int) else -1
theorem atI_here (l : List Nd) (p : List UInt8) (i : Nat) (hi : i < l.length) (h : nP (l.getD i nd0) = p) (hf : ∀ j, j < i → nP (l.getD j nd0) ≠ p) : atI l p = (i : Int) := by
  have e := placeN_here l p i hi h hf
  unfold atI hasN
  rw [e]
  simp [hi]
theorem atI_none (l : List Nd) (p : List UInt8) (h : ∀ j, j < l.length → nP (l.getD j nd0) ≠ p) : atI l p = -1 := by
  have e := placeN_none l p h
  unfold atI hasN
  rw [e]
  simp

set_option maxRecDepth 100000 in
set_option maxHeartbeats 2000000 in
theorem rfAt_any (l : List Nd) (p : List UInt8) (v : Value) (w : World) (hr : RdNd w.heap.size w v l) : Calls Tryd.prog 38 #[.agg #[v], txt p] w (One (.int .i64 (atI l p)) w) := by
  obtain ⟨A, cp, rfl, hc, hm⟩ := hr.shape
  unfold maxLen at hm
  obtain ⟨n, hn⟩ : ∃ n, l.length = n := ⟨_, rfl⟩
  have HN := Lib.hid hn
  have HR := Lib.hid hr
  rw [hn] at hc HR ⊢
  clear hr hn
  go_enter Tryd.func38, Tryd.ntmps38
  go_wp2_with (refine wpList_box_blk rfl 30 _ rfl [.slice A n cp] rfl ?_)
  intro w1 b1 b2 b3
  have hs1 : w.heap.size ≤ w1.heap.size := by omega
  have HR1 := Lib.hid (HR.out.below b3)
  have HB := Lib.hid b3
  have cs := b1.cell 0
  obtain ⟨g, hg⟩ : ∃ g, w.heap.size = g := ⟨_, rfl⟩
  rw [hg] at cs ⊢
  clear b1 b2 b3 HR
  go_wp2
  go_loop [5] (fun x => ∃ i : Nat, i ≤ n ∧ x = .int .i64 (i : Int) ∧ Hid (∀ j, j < i → nP (l.getD j nd0) ≠ p)) (fun x => n - (intOf x).toNat)
  case atStart => exact ⟨0, by omega, rfl, fun j hj => by omega⟩
  case round =>
    obtain ⟨i, hi, rfl, HA⟩ := hrel
    by_cases hi2 : i < n
    · have zi : (i : Int) < (n : Int) := by omega
      obtain ⟨a, hA, c0, -, -, -⟩ := HR1.out.at_ i (by rw [HN.out]; exact hi2)
      subst hA
      obtain ⟨x, hx⟩ : ∃ x, nP (l.getD i nd0) = x := ⟨_, rfl⟩
      rw [hx] at c0
      by_cases hxp : x = p
      · have hb : (x == p) = true := by simpa using hxp
        have HE := Lib.hid (atI_here l p i (by rw [HN.out]; exact hi2) (by rw [hx, hxp]) HA.out)
        clear hxp hx
        go_wp2
        go_ret
        exact ⟨by rw [HE.out]; rfl, HB.out⟩
      · have hb : (x == p) = false := txt_ne x p hxp
        have HA2 : Hid (∀ j, j < i + 1 → nP (l.getD j nd0) ≠ p) := by
          intro j hj
          by_cases h : j < i
          · exact HA.out j h
          · have : j = i := by omega
            subst this
            rw [hx]; exact hxp
        clear hxp hx
        go_wp2
        go_round
        case rel => exact ⟨i + 1, by omega, by go_num, HA2⟩
        case measure => simp [intOf]; omega
    · have hE : i = n := by omega
      subst hE
      have HE := Lib.hid (atI_none l p (by rw [HN.out]; exact HA.out))
      go_wp2
      go_ret
      exact ⟨by rw [HE.out]; rfl, HB.out⟩
end Go.Proofs.YtlpakfaoaodaiaaDoor

namespace Go.Proofs.YtlpakfaoaodaiaaDoor
open Go.RowKit

/-- A node as a value. -/
def ndv (x : Nd) : Value := .agg (ndc x).toArray
/-- The call answers a node and a fault. -/
def Gets (x : Nd) (f : Nat) (w : World) (e : Ending) (w' : World) : Prop := e = .returned (.tuple #[ndv x, .int .i64 (f : Int)]) ∧ Below w.heap.size w w'
theorem atI_or (l : List Nd) (p : List UInt8) : (hasN l p = true ∧ atI l p = (placeN l p : Int) ∧ placeN l p < l.length) ∨ (hasN l p = false ∧ atI l p = -1) := by
  unfold atI
  cases h : hasN l p
  · right; simp
  · left
    unfold hasN at h
    simpa using h
theorem get_not (l : List Nd) (p : List UInt8) (h : rightB p = false) : getE l p = 13 ∧ getS l p = nd0 := by simp [getE, getS, h]
theorem get_none (l : List Nd) (p : List UInt8) (h : rightB p = true) (h2 : hasN l p = false) : getE l p = 6 ∧ getS l p = nd0 := by simp [getE, getS, h, h2]
theorem get_yes (l : List Nd) (p : List UInt8) (h : rightB p = true) (h2 : hasN l p = true) : getE l p = 0 ∧ getS l p = l.getD (placeN l p) nd0 := by simp [getE, getS, h, h2, nodeN]

theorem rowND : ∃ d, Tryd.prog.underlying 56 = some d ∧ d.isRow = true := ⟨_, Tryd.underlying56, rfl⟩
theorem sND : (Tryd.prog.info? 56).map (·.size) = some 4 := by kernel_rfl
theorem zND : (Tryd.prog.info? 56).map (·.zero) = some (some (.agg (ndc nd0).toArray)) := by kernel_rfl
theorem rowSH : ∃ d, Tryd.prog.underlying 30 = some d ∧ d.isRow = true := ⟨_, Tryd.underlying30, rfl⟩
theorem sSH : (Tryd.prog.info? 30).map (·.size) = some 1 := by kernel_rfl
theorem zSH : (Tryd.prog.info? 30).map (·.zero) = some (some (.agg [Value.slice none 0 0].toArray)) := by kernel_rfl
theorem Blk.same {w w' : World} {g : Nat} {cs : List Value} {t : TypeId} (h : Blk w g cs t) (hO : w'.heap[g]? = w.heap[g]?) : Blk w' g cs t := by
  unfold Blk
  rw [hO]
  exact h
theorem ownsRow_same {w w' : World} {b : Nat} {e : TypeId} {s : Nat} {v : Value} {n : Nat} {xs : List Value} (h : w.ownsRow b e s v n xs) (hO : ∀ k, b ≤ k → w'.heap[k]? = w.heap[k]?) : w'.ownsRow b e s v n xs := by
  refine ⟨h.1, ?_⟩
  rcases h.2 with hn | ⟨g, cap, cur, rfl, hg0, hg1, r⟩
  · exact .inl hn
  · exact .inr ⟨g, cap, cur, rfl, hg0, by rw [hO g hg0]; exact hg1, r⟩
theorem ownsRow_other {w w' : World} {b b' : Nat} {e e' : TypeId} {s s' : Nat} {v v' : Value} {n n' : Nat} {xs xs' : List Value} (hne : e ≠ e') (h : w.ownsRow b e s v n xs) (h' : w.ownsRow b' e' s' v' n' xs') (hg : w.grownBy w' v'.ownBlock) : w'.ownsRow b e s v n xs := by
  refine ⟨h.1, ?_⟩
  rcases h.2 with hn | ⟨g, cap, cur, rfl, hg0, hg1, r⟩
  · exact .inl hn
  · have hlt : g < w.heap.size := (Array.getElem?_eq_some_iff.1 hg1).1
    refine .inr ⟨g, cap, cur, rfl, hg0, ?_, r⟩
    rw [hg.block g hlt ?_]
    · exact hg1
    · intro he
      rcases h'.2 with ⟨rfl, _⟩ | ⟨g', cap', cur', rfl, _, hg1', _⟩
      · cases he
      · injection he with he
        have he2 : g = g' := he
        subst he2
        rw [hg1] at hg1'
        injection hg1' with hg1'
        injection hg1' with _ h3
        exact hne h3
/-- The whole row is written: the world behind it. -/
theorem wpList_store_to {P : Program} {w : World} {ops : Array Oper} {rest : List Oper} {o : Oper} {a : Act} {Q : Exit → Act → World → Prop} (hg : o.guard = none) (t : TypeId) (x y : Operand) (ho : o.op = .store t x y) (g : Nat) (cs old : List Value) (u : TypeId)
    (hx : a.eval x = .pointer (some ⟨g, 0, none⟩)) (hy : a.eval y = .agg cs.toArray) (hb : Blk w g old u) (hi : (P.info? t).map (·.size) = some cs.length) (hl : old.length = cs.length) (h1 : cs.toArray.all (·.oneCell') = true)
    (h : ∀ w', Blk w' g cs u → w'.heap.size = w.heap.size → Below g w w' → (∀ k, k ≠ g → w'.heap[k]? = w.heap[k]?) → wpList P ops Q rest (a.put o.dst undef) w') : wpList P ops Q (o :: rest) a w := by
  refine wpList_store_blk hg t x y ho g cs old u hx hy hb hi hl h1 ?_
  exact h _ hb.setRow (by simp [World.setRow]) (below_setRow' (Below.refl _ _) (Nat.le_refl _) _) (fun k hne => setRow_other w g k _ hne)
theorem ndc_one (x : Nd) : (ndc x).toArray.all (·.oneCell') = true := by
  rw [Array.all_eq_true_iff_forall_mem]
  intro v hv
  exact nds_cell [x] v (by rw [nds_one]; simpa using hv)

set_option maxRecDepth 100000 in
set_option maxHeartbeats 2000000 in
theorem rfGet_any (l : List Nd) (p : List UInt8) (v : Value) (w : World) (hr : RdNd w.heap.size w v l) : Calls Tryd.prog 28 #[.agg #[v], txt p] w (Gets (getS l p) (getE l p) w) := by
  obtain ⟨A, cp, rfl, hc, hm⟩ := hr.shape
  unfold maxLen at hm
  obtain ⟨n, hn⟩ : ∃ n, l.length = n := ⟨_, rfl⟩
  have HN := Lib.hid hn
  have HR := Lib.hid hr
  rw [hn] at hc HR ⊢
  clear hr hn
  obtain ⟨d56, hu56, hd56⟩ := rowND
  have HU := Lib.hid hu56
  have HD := Lib.hid hd56
  clear hu56 hd56
  go_enter Tryd.func28, Tryd.ntmps28
  go_wp2_with (refine wpList_box_blk rfl 30 _ rfl [.slice A n cp] rfl ?_)
  intro w1 b1 b2 b3
  go_wp2_with (refine wpList_alloc_blk rfl 56 rfl (ndc nd0) zND ?_)
  intro w2 a1 a2 a3
  obtain ⟨g0, hg0⟩ : ∃ g, w.heap.size = g := ⟨_, rfl⟩
  obtain ⟨g1, hg1⟩ : ∃ g, w.heap.size + 1 = g := ⟨_, rfl⟩
  have hg01 : g0 < g1 := by omega
  have hw2 : w.heap.size ≤ w2.heap.size := by omega
  have hg2 : g1 < w2.heap.size := by omega
  have X0 := Lib.hid (b1.below a3 (by omega))
  have X1 := Lib.hid a1
  have HB := Lib.hid (b3.trans (a3.mono (by omega)))
  have HR2 := Lib.hid (HR.out.below HB.out)
  rw [hg1] at X1 ⊢
  rw [hg0] at X0 ⊢
  clear b1 b2 b3 a1 a2 a3 HR hg1
  go_wp2_with fail
  refine (rfRight_any p w2).mono ?_
  rintro e w3 ⟨rfl, hb⟩
  have hs3 := hb.size
  have Y0 := Lib.hid (X0.out.below hb (by omega))
  have Y1 := Lib.hid (X1.out.below hb (by omega))
  have HB3 := Lib.hid (HB.out.trans (hb.mono (by omega)))
  have HR3 := Lib.hid ((HR2.out.below (hb.mono hw2)).more (show w.heap.size ≤ w3.heap.size by omega))
  clear hb X0 X1 HB HR2
  cases hR : rightB p
  · have HG := Lib.hid (get_not l p hR)
    clear hR
    go_wp2_with (refine wpList_store_blk rfl 56 _ _ rfl g1 (ndc nd0) (ndc nd0) 56 rfl rfl Y1.out sND rfl (ndc_one _) ?_)
    refine bodyPost_ret (v := .tuple #[.agg (ndc nd0).toArray, .int .i64 13]) ?_ rfl ?_
    · exact ret_blk2U rfl _ _ g1 56 (ndc nd0) _ rfl rfl Y1.out.setRow d56 HU.out HD.out sND
    · rw [HG.out.1, HG.out.2]
      exact ⟨rfl, below_setRow' HB3.out (by omega) _⟩
  · have HR4 := Lib.hid hR
    have cs := Y0.out.cell 0
    clear hR
    go_wp2_with fail
    refine (rfAt_any l p _ w3 HR3.out).mono ?_
    rintro e w4 ⟨rfl, hb⟩
    have hs4 := hb.size
    have Z0 := Lib.hid (Y0.out.below hb (by omega))
    have Z1 := Lib.hid (Y1.out.below hb (by omega))
    have HB4 := Lib.hid (HB3.out.trans (hb.mono (by omega)))
    have HR5 := Lib.hid (HR3.out.below hb)
    clear hb Y0 Y1 HB3 HR3 cs
    rcases atI_or l p with ⟨h1, h2, h3⟩ | ⟨h1, h2⟩
    · have HG := Lib.hid (get_yes l p HR4.out h1)
      rw [h2]
      obtain ⟨i, hi⟩ : ∃ i, placeN l p = i := ⟨_, rfl⟩
      rw [hi] at HG h3 ⊢
      rw [HN.out] at h3
      have zi : (i : Int) < (n : Int) := by omega
      obtain ⟨a, hA, c0, c1, c2, c3⟩ := HR5.out.at_ i (by rw [HN.out]; exact h3)
      subst hA
      obtain ⟨x, hx⟩ : ∃ x, l.getD i nd0 = x := ⟨_, rfl⟩
      rw [hx] at c0 c1 c2 c3 HG
      have cs := Z0.out.cell 0
      clear h1 h2 hi hx HR5 HR4
      go_wp2_with (refine wpList_store_blk rfl 56 _ _ rfl g1 (ndc x) (ndc nd0) 56 rfl rfl Z1.out sND rfl (ndc_one _) ?_)
      refine bodyPost_ret (v := .tuple #[.agg (ndc x).toArray, .int .i64 0]) ?_ rfl ?_
      · exact ret_blk2U rfl _ _ g1 56 (ndc x) _ rfl rfl Z1.out.setRow d56 HU.out HD.out sND
      · rw [HG.out.1, HG.out.2]
        exact ⟨rfl, below_setRow' HB4.out (by omega) _⟩
    · have HG := Lib.hid (get_none l p HR4.out h1)
      rw [h2]
      clear h1 h2 HR5 HR4
      go_wp2_with (refine wpList_store_blk rfl 56 _ _ rfl g1 (ndc nd0) (ndc nd0) 56 rfl rfl Z1.out sND rfl (ndc_one _) ?_)
      refine bodyPost_ret (v := .tuple #[.agg (ndc nd0).toArray, .int .i64 6]) ?_ rfl ?_
      · exact ret_blk2U rfl _ _ g1 56 (ndc nd0) _ rfl rfl Z1.out.setRow d56 HU.out HD.out sND
      · rw [HG.out.1, HG.out.2]
        exact ⟨rfl, below_setRow' HB4.out (by omega) _⟩
end Go.Proofs.YtlpakfaoaodaiaaDoor
