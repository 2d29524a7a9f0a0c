/-
  Texts J0 JA JB JC JD JE JF NB EE ER ES NC ND NE NF NG NH R3 R6.
-/
import Derived.WalkLawsBesides
import Derived.Deep.QuietTactic
import Derived.BigQuiet
import Derived.Test.YtgfobinklijkpaaGreatDoorV02
import Derived.Test.YtgfobinklijkpaaGreatDoorV05
import Derived.Test.YtgfobinklijkpaaGreatDoorV06
import Derived.Test.YtgfobinklijkpaaGreatDoorV07
namespace Go.Proofs.YtgfobinklijkpaaGreatDoor
set_option maxRecDepth 100000
set_option maxHeartbeats 16000000
open Go.RowKit
abbrev Se := Int × Int × Int
abbrev sI (x : Se) : Int := x.1
abbrev sP (x : Se) : Int := x.2.1
abbrev sU (x : Se) : Int := x.2.2
def se0 : Se := (0, 0, 0)
def fineS (t : Int) (x : Se) : Bool := decide (1 ≤ sI x) && decide (1 ≤ sP x) && decide (sP x ≤ 1000) && decide (t < sU x) && decide (sU x ≤ t + sP x)
def okS (t : Int) (l : List Se) (i : Nat) : Bool := fineS t (l.getD i se0) && (decide (i = 0) || decide (sI (l.getD (i - 1) se0) < sI (l.getD i se0)))
def rightS (t : Int) (l : List Se) : Bool := decide (0 ≤ t) && decide (t ≤ 1000000000) && decide (l.length ≤ 50) && (List.range l.length).all (okS t l)
def hasSe (l : List Se) (id : Int) : Bool := l.any fun x => sI x == id
def insS (x : Se) : List Se → List Se
 | [] => [x]
 | y :: r => if sI x < sI y then x :: y :: r else y :: insS x r
def openE (l : List Se) (id sp : Int) : Nat := if id < 1 ∨ sp < 1 ∨ 1000 < sp then 1 else if hasSe l id = true then 7 else if 50 ≤ l.length then 9 else 0
def openS (t : Int) (l : List Se) (id sp : Int) : List Se := if openE l id sp = 0 then insS (id, sp, t + sp) l else l
def leaseE (l : List Se) (id : Int) : Nat := if hasSe l id = true then 0 else 14
def touch1 (t id : Int) (x : Se) : Se := if sI x = id then (sI x, sP x, t + sP x) else x
def touchS (t : Int) (l : List Se) (id : Int) : List Se := l.map (touch1 t id)
def closeS (l : List Se) (id : Int) : List Se := l.filter fun x => decide (sI x ≠ id)
def tickE (t z : Int) : Nat := if z < t then 15 else if 1000000000 < z then 5 else 0
def tickT (t z : Int) : Int := if tickE t z = 0 then z else t
def lateS (z : Int) (x : Se) : Bool := decide (sU x ≤ z)
def tickS (t : Int) (l : List Se) (z : Int) : List Se := if tickE t z = 0 then l.filter fun x => !lateS z x else l
def goneS (t : Int) (l : List Se) (z : Int) : List Int := if tickE t z = 0 then (l.filter (lateS z)).map sI else []
def ordS (l : List Se) : Prop := l.Pairwise fun x y => sI x < sI y
structure RightB (t : Int) (l : List Se) : Prop where
 lo : 0 ≤ t
 hi : t ≤ 1000000000
 few : l.length ≤ 50
 fine : ∀ x ∈ l, fineS t x = true
 order : ordS l
theorem getD_memS (l : List Se) (i : Nat) (hi : i < l.length) : l.getD i se0 ∈ l := by
 rw [List.getD_eq_getElem?_getD, List.getElem?_eq_getElem hi]
 exact List.getElem_mem _
theorem mem_getDS (l : List Se) (x : Se) (hx : x ∈ l) : ∃ i, i < l.length ∧ l.getD i se0 = x := by
 obtain ⟨i, hi, rfl⟩ := List.getElem_of_mem hx
 exact ⟨i, hi, by rw [List.getD_eq_getElem?_getD, List.getElem?_eq_getElem hi]; rfl⟩
theorem ordS_steps : ∀ (l : List Se), (∀ i, i + 1 < l.length → sI (l.getD i se0) < sI (l.getD (i + 1) se0)) → ordS l
 | [], _ => List.Pairwise.nil
 | [x], _ => by simp [ordS]
 | x :: y :: r, h => by
   have ih := ordS_steps (y :: r) fun i hi => by
    have := h (i + 1) (by simpa using hi)
    simpa using this
   have h0 : sI x < sI y := by simpa using h 0 (by simp)
   refine List.Pairwise.cons ?_ ih
   intro z hz
   rcases List.mem_cons.1 hz with rfl | hz
   ·exact h0
   ·exact Int.lt_trans h0 (List.rel_of_pairwise_cons ih hz)
theorem ordS_at (l : List Se) (h : ordS l) (i j : Nat) (hij : i < j) (hj : j < l.length) : sI (l.getD i se0) < sI (l.getD j se0) := by
 have := (List.pairwise_iff_getElem.1 h) i j (by omega) hj hij
 simpa [List.getD_eq_getElem?_getD, List.getElem?_eq_getElem hj, List.getElem?_eq_getElem (show i < l.length by omega)] using this
theorem ordS_same (l : List Se) (h : ordS l) (x y : Se) (hx : x ∈ l) (hy : y ∈ l) (e : sI x = sI y) : x = y := by
 obtain ⟨i, hi, rfl⟩ := mem_getDS l x hx
 obtain ⟨j, hj, rfl⟩ := mem_getDS l y hy
 by_cases h1 : i < j
 ·have := ordS_at l h i j h1 hj; omega
 ·by_cases h2 : j < i
  ·have := ordS_at l h j i h2 hi; omega
  ·have : i = j := by omega
   rw [this]
theorem rightS_iff (t : Int) (l : List Se) : rightS t l = true ↔ RightB t l := by
 unfold rightS
 simp only [Bool.and_eq_true, decide_eq_true_eq, List.all_eq_true, List.mem_range]
 constructor
 ·rintro ⟨⟨⟨h1, h2⟩, h3⟩, h4⟩
  have hk : ∀ i, i < l.length → fineS t (l.getD i se0) = true ∧ (i = 0 ∨ sI (l.getD (i - 1) se0) < sI (l.getD i se0)) := by
   intro i hi
   have := h4 i hi
   unfold okS at this
   simpa only [Bool.and_eq_true, Bool.or_eq_true, decide_eq_true_eq] using this
  refine ⟨h1, h2, h3, ?_, ?_⟩
  ·intro x hx
   obtain ⟨i, hi, rfl⟩ := mem_getDS l x hx
   exact (hk i hi).1
  ·refine ordS_steps l fun i hi => ?_
   rcases (hk (i + 1) hi).2 with e | e
   ·omega
   ·simpa using e
 ·rintro ⟨h1, h2, h3, h4, h5⟩
  refine ⟨⟨⟨h1, h2⟩, h3⟩, fun i hi => ?_⟩
  unfold okS
  simp only [Bool.and_eq_true, Bool.or_eq_true, decide_eq_true_eq]
  refine ⟨h4 _ (getD_memS l i hi), ?_⟩
  by_cases h0 : i = 0
  ·exact .inl h0
  ·exact .inr (ordS_at l h5 (i - 1) i (by omega) hi)
theorem hasS_iff (l : List Se) (id : Int) : hasSe l id = true ↔ ∃ x ∈ l, sI x = id := by
 unfold hasSe
 rw [List.any_eq_true]
 simp
theorem hasSe_not (l : List Se) (id : Int) : hasSe l id = false ↔ ∀ x ∈ l, sI x ≠ id := by
 rw [← Bool.not_eq_true, hasS_iff]
 simp
theorem insS_mem (x : Se) : ∀ (l : List Se) (y : Se), y ∈ insS x l ↔ y = x ∨ y ∈ l
 | [], y => by simp [insS]
 | z :: r, y => by
   unfold insS
   split
   ·simp
   ·rw [List.mem_cons, insS_mem x r y, List.mem_cons]
    constructor
    ·rintro (h | h | h)
     ·exact .inr (.inl h)
     ·exact .inl h
     ·exact .inr (.inr h)
    ·rintro (h | h | h)
     ·exact .inr (.inl h)
     ·exact .inl h
     ·exact .inr (.inr h)
theorem insS_len (x : Se) : ∀ l : List Se, (insS x l).length = l.length + 1
 | [] => rfl
 | z :: r => by
   unfold insS
   split
   ·simp
   ·simp [insS_len x r]
theorem insS_ord (x : Se) : ∀ l : List Se, ordS l → (∀ y ∈ l, sI y ≠ sI x) → ordS (insS x l)
 | [], _, _ => by simp [insS, ordS]
 | z :: r, h, hn => by
   unfold insS
   split
   ·rename_i hlt
    refine List.Pairwise.cons ?_ h
    intro y hy
    rcases List.mem_cons.1 hy with rfl | hy
    ·exact hlt
    ·exact Int.lt_trans hlt (List.rel_of_pairwise_cons h hy)
   ·rename_i hlt
    refine List.Pairwise.cons ?_ (insS_ord x r h.of_cons fun y hy => hn y (List.mem_cons_of_mem _ hy))
    intro y hy
    rcases (insS_mem x r y).1 hy with rfl | hy
    ·have := hn z (List.mem_cons_self ..)
     omega
    ·exact List.rel_of_pairwise_cons h hy
theorem open_yes (l : List Se) (id sp : Int) (h : openE l id sp = 0) : 1 ≤ id ∧ 1 ≤ sp ∧ sp ≤ 1000 ∧ hasSe l id = false ∧ l.length < 50 := by
 unfold openE at h
 split at h
 ·cases h
 ·rename_i h1
  split at h
  ·cases h
  ·rename_i h2
   split at h
   ·cases h
   ·rename_i h3
    exact ⟨by omega, by omega, by omega, by simpa using h2, by omega⟩
theorem right_open (t : Int) (l : List Se) (id sp : Int) (h : RightB t l) : RightB t (openS t l id sp) := by
 unfold openS
 split
 ·rename_i he
  obtain ⟨h1, h2, h3, h4, h5⟩ := open_yes l id sp he
  refine ⟨h.lo, h.hi, by rw [insS_len]; omega, ?_, insS_ord _ _ h.order fun y hy e => (hasSe_not l id).1 h4 y hy e⟩
  intro x hx
  rcases (insS_mem _ l x).1 hx with rfl | hx
  ·simp only [fineS, sI, sP, sU, Bool.and_eq_true, decide_eq_true_eq]; omega
  ·exact h.fine x hx
 ·exact h
theorem fine_touch (t id : Int) (x : Se) (h : fineS t x = true) : fineS t (touch1 t id x) = true := by
 unfold touch1
 split
 ·simp only [fineS, sI, sP, sU, Bool.and_eq_true, decide_eq_true_eq] at h ⊢
  omega
 ·exact h
theorem touch_id (t id : Int) (x : Se) : sI (touch1 t id x) = sI x := by
 unfold touch1
 split <;> rfl
theorem right_touch (t : Int) (l : List Se) (id : Int) (h : RightB t l) : RightB t (touchS t l id) := by
 refine ⟨h.lo, h.hi, by unfold touchS; rw [List.length_map]; exact h.few, ?_, ?_⟩
 ·intro x hx
  obtain ⟨y, hy, rfl⟩ := List.mem_map.1 hx
  exact fine_touch t id y (h.fine y hy)
 ·unfold touchS ordS
  rw [List.pairwise_map]
  exact h.order.imp fun {a b} hab => by rw [touch_id, touch_id]; exact hab
theorem right_close (t : Int) (l : List Se) (id : Int) (h : RightB t l) : RightB t (closeS l id) :=
 ⟨h.lo, h.hi, Nat.le_trans (List.length_filter_le _ _) h.few, fun x hx => h.fine x (List.mem_filter.1 hx).1, h.order.filter _⟩
theorem tick_yes (t z : Int) (h : tickE t z = 0) : t ≤ z ∧ z ≤ 1000000000 := by
 unfold tickE at h
 split at h
 ·cases h
 ·split at h
  ·cases h
  ·omega
theorem tick_of (t z : Int) (h1 : t ≤ z) (h2 : z ≤ 1000000000) : tickE t z = 0 := by
 unfold tickE
 rw [if_neg (by omega), if_neg (by omega)]
theorem right_tick (t : Int) (l : List Se) (z : Int) (h : RightB t l) : RightB (tickT t z) (tickS t l z) := by
 unfold tickT tickS
 split
 ·rename_i he
  obtain ⟨h1, h2⟩ := tick_yes t z he
  refine ⟨by have := h.lo; omega, h2, Nat.le_trans (List.length_filter_le _ _) h.few, ?_, h.order.filter _⟩
  intro x hx
  have hm := List.mem_filter.1 hx
  have hf := h.fine x hm.1
  have hl := hm.2
  simp only [lateS, Bool.not_eq_true', decide_eq_false_iff_not] at hl
  simp only [fineS, Bool.and_eq_true, decide_eq_true_eq] at hf ⊢
  omega
 ·exact h
def sec (x : Se) : List Value := [.int .i64 (sI x), .int .i64 (sP x), .int .i64 (sU x)]
theorem sec_one (x : Se) : ∀ u ∈ sec x, u.oneCell' = true := by
 intro u hu
 unfold sec at hu
 simp only [List.mem_cons, List.not_mem_nil, or_false] at hu
 rcases hu with rfl | rfl | rfl <;> rfl
def SeK : RowK Se := { enc := sec, k := 3, d := se0, len := fun _ => rfl, one := sec_one, pos := by decide }
def inc (x : Int) : List Value := [.int .i64 x]
def InK : RowK Int := { enc := inc, k := 1, d := 0, len := fun _ => rfl, one := fun x u hu => by unfold inc at hu; simp only [List.mem_cons, List.not_mem_nil, or_false] at hu; rw [hu]; rfl, pos := by decide }
theorem RdE.at3 {B : Nat} {w : World} {A : Option Addr} {n c : Nat} {l : List Se} (h : RdE SeK B w (.slice A n c) l) (j : Nat) (hj : j < l.length) :
 ∃ a, A = some a ∧ w.cell? (a.add (j * 3)) = some (.int .i64 (sI (l.getD j se0))) ∧ w.cell? ⟨(a.add (j * 3)).block, (a.add (j * 3)).off + 1, none⟩ = some (.int .i64 (sP (l.getD j se0))) ∧
   w.cell? ⟨(a.add (j * 3)).block, (a.add (j * 3)).off + 2, none⟩ = some (.int .i64 (sU (l.getD j se0))) := by
 obtain ⟨a, ha, hc⟩ := h.cells j hj
 exact ⟨a, ha, hc 0 (by decide), hc 1 (by decide), hc 2 (by decide)⟩
theorem RdE.at1 {B : Nat} {w : World} {A : Option Addr} {n c : Nat} {l : List Int} (h : RdE InK B w (.slice A n c) l) (j : Nat) (hj : j < l.length) :
 ∃ a, A = some a ∧ w.cell? (a.add j) = some (.int .i64 (l.getD j 0)) := by
 obtain ⟨a, ha, hc⟩ := h.cells j hj
 have h0 := hc 0 (by decide)
 rw [show j * InK.k = j from Nat.mul_one j] at h0
 exact ⟨a, ha, h0⟩
theorem take_se (l : List Se) (i : Nat) (hi : i < l.length) : l.take (i + 1) = l.take i ++ [l.getD i se0] := by
 rw [List.take_add_one, List.getD_eq_getElem?_getD, List.getElem?_eq_getElem hi]
 rfl
theorem book_one (t : Int) (A : Option Addr) (n c : Nat) : [Value.int .i64 t, .slice A n c].toArray.all (·.oneCell') = true := by
 rw [Array.all_eq_true_iff_forall_mem]
 intro v hv
 simp at hv
 rcases hv with rfl | rfl <;> rfl
theorem sec_all (x : Se) : (sec x).toArray.all (·.oneCell') = true := enc_all SeK x
def Book1 (t : Int) (l : List Se) (w : World) (e : Ending) (w' : World) : Prop := ∃ v, e = .returned (.agg #[.int .i64 t, v]) ∧ RdE SeK w'.heap.size w' v l ∧ Below w.heap.size w w'
def BooksO (en : TypeId) (v0 : Value) (t : Int) (l : List Se) (f : Nat) (w : World) (e : Ending) (w' : World) : Prop := ∃ v, e = .returned (.tuple #[.agg #[.int .i64 t, v], .int .i64 (f : Int)]) ∧ RdE SeK w'.heap.size w' v l ∧ (v = v0 ∨ OwnE SeK en w' w.heap.size v l) ∧ Below w.heap.size w w'
def TicksO (en ei : TypeId) (v0 : Value) (t : Int) (l : List Se) (g : List Int) (f : Nat) (w : World) (e : Ending) (w' : World) : Prop :=
 ∃ v u, e = .returned (.tuple #[.agg #[.int .i64 t, v], u, .int .i64 (f : Int)]) ∧ RdE SeK w'.heap.size w' v l ∧ RdE InK w'.heap.size w' u g ∧ (v = v0 ∨ OwnE SeK en w' w.heap.size v l) ∧ (u = .slice none 0 0 ∨ OwnE InK ei w' w.heap.size u g) ∧ Below w.heap.size w w'
theorem close_none (l : List Se) (id : Int) (h : hasSe l id = false) : leaseE l id = 14 ∧ closeS l id = l := by
 refine ⟨by unfold leaseE; rw [h]; rfl, ?_⟩
 unfold closeS
 rw [List.filter_eq_self]
 intro x hx
 simpa using (hasSe_not l id).1 h x hx
theorem lease_yes (l : List Se) (id : Int) (h : hasSe l id = true) : leaseE l id = 0 := by unfold leaseE; rw [h]; rfl
theorem touch_none (t : Int) (l : List Se) (id : Int) (h : hasSe l id = false) : leaseE l id = 14 ∧ touchS t l id = l := by
 refine ⟨(close_none l id h).1, ?_⟩
 unfold touchS
 rw [List.map_congr_left (g := fun x => x) fun x hx => ?_, List.map_id']
 unfold touch1
 rw [if_neg ((hasSe_not l id).1 h x hx)]
theorem touch_fit (t : Int) (l : List Se) (h : RightB t l) (x : Se) (hx : x ∈ l) : wrap64 (t + sP x) = t + sP x ∧ IntKind.i64.wrap (t + sP x) = t + sP x := by
 have h1 := h.lo
 have h2 := h.hi
 have h3 := h.fine x hx
 simp only [fineS, Bool.and_eq_true, decide_eq_true_eq] at h3
 refine ⟨?_, ?_⟩
 ·unfold wrap64
  omega
 ·rw [IntKind.wrap_i64]
  omega
theorem open_err (t : Int) (l : List Se) (id sp : Int) (f : Nat) (h : openE l id sp = f) (h0 : f ≠ 0) : openE l id sp = f ∧ openS t l id sp = l := by
 refine ⟨h, ?_⟩
 unfold openS
 rw [if_neg (by rw [h]; exact h0)]
theorem open_ok (t : Int) (l : List Se) (id sp : Int) (h : openE l id sp = 0) : openE l id sp = 0 ∧ openS t l id sp = insS (id, sp, t + sp) l := by
 refine ⟨h, ?_⟩
 unfold openS
 rw [if_pos h]
theorem openE_arg (l : List Se) (id sp : Int) (h : id < 1 ∨ sp < 1 ∨ 1000 < sp) : openE l id sp = 1 := by unfold openE; rw [if_pos h]
theorem openE_has (l : List Se) (id sp : Int) (h : ¬ (id < 1 ∨ sp < 1 ∨ 1000 < sp)) (h2 : hasSe l id = true) : openE l id sp = 7 := by unfold openE; rw [if_neg h, if_pos h2]
theorem openE_full (l : List Se) (id sp : Int) (h : ¬ (id < 1 ∨ sp < 1 ∨ 1000 < sp)) (h2 : hasSe l id = false) (h3 : 50 ≤ l.length) : openE l id sp = 9 := by unfold openE; rw [if_neg h, if_neg (by rw [h2]; simp), if_pos h3]
theorem openE_ok (l : List Se) (id sp : Int) (h : ¬ (id < 1 ∨ sp < 1 ∨ 1000 < sp)) (h2 : hasSe l id = false) (h3 : ¬ 50 ≤ l.length) : openE l id sp = 0 := by unfold openE; rw [if_neg h, if_neg (by rw [h2]; simp), if_neg h3]
theorem ret_blk3K {P : Program} {fn : Func} {p u v : Tmp} {ty : TypeId} (h : fn.results = #[.cell p ty, .tmp u, .tmp v]) (tmps : Array Value) (w : World) (g : Nat) (t : TypeId) (cs : List Value) (x y : Value)
 (hp : tmps.getD p undef = .pointer (some ⟨g, 0, none⟩)) (hx : tmps.getD u undef = x) (hy : tmps.getD v undef = y) (hb : Blk w g cs t) (d : TypeDesc) (hu : P.underlying ty = some d) (hd : d.isRow = true) (hi : (P.info? ty).map (·.size) = some cs.length) :
 (results fn tmps).run P w = .ok (.tuple #[.agg cs.toArray, x, y]) w := by
 have hl := run_loadVar_row w g t ty cs.toArray (0, 0) d hb hu (by cases d <;> first | rfl | cases hd) (by simpa using hi)
 have hp' : tmps[p]?.getD undef = .pointer (some ⟨g, 0, none⟩) := by simpa using hp
 have hx' : tmps[u]?.getD undef = x := by simpa using hx
 have hy' : tmps[v]?.getD undef = y := by simpa using hy
 simp [results, h, Result.andThen, hp', hx', hy', asAddr, hl]
theorem kindIn : KindOf Tryz.prog 3 InK 8 := kind_of (z := .int .i64 0) (by kernel_rfl) rfl
def keepS (l : List Se) (z : Int) : List Se := l.filter fun x => !lateS z x
def lateN (l : List Se) (z : Int) : List Int := (l.filter (lateS z)).map sI
theorem tick_err (t : Int) (l : List Se) (z : Int) (f : Nat) (h : tickE t z = f) (h0 : f ≠ 0) : tickT t z = t ∧ tickS t l z = l ∧ goneS t l z = [] ∧ tickE t z = f := by
 unfold tickT tickS goneS
 rw [if_neg (by rw [h]; exact h0), if_neg (by rw [h]; exact h0), if_neg (by rw [h]; exact h0)]
 exact ⟨rfl, rfl, rfl, h⟩
theorem tick_ok (t : Int) (l : List Se) (z : Int) (h1 : t ≤ z) (h2 : z ≤ 1000000000) : tickT t z = z ∧ tickS t l z = keepS l z ∧ goneS t l z = lateN l z ∧ tickE t z = 0 := by
 have h := tick_of t z h1 h2
 unfold tickT tickS goneS
 rw [if_pos h, if_pos h, if_pos h]
 exact ⟨rfl, rfl, rfl, h⟩
theorem keep_snoc (l : List Se) (z : Int) (i : Nat) (hi : i < l.length) : keepS (l.take (i + 1)) z = keepS (l.take i) z ++ (if sU (l.getD i se0) ≤ z then [] else [l.getD i se0]) ∧
 lateN (l.take (i + 1)) z = lateN (l.take i) z ++ (if sU (l.getD i se0) ≤ z then [sI (l.getD i se0)] else []) := by
 rw [take_se l i hi]
 obtain ⟨y, hy⟩ : ∃ y, l.getD i se0 = y := ⟨_, rfl⟩
 rw [hy]
 unfold keepS lateN
 rw [List.filter_append, List.filter_append, List.map_append]
 by_cases h : sU y ≤ z <;> simp [lateS, h]
theorem keep_len (l : List Se) (z : Int) : (keepS l z).length ≤ l.length := List.length_filter_le _ _
theorem late_len (l : List Se) (z : Int) : (lateN l z).length ≤ l.length := by
 unfold lateN
 rw [List.length_map]
 exact List.length_filter_le _ _
set_option linter.unusedVariables false
set_option linter.unusedVariables false
set_option linter.unusedVariables false
set_option linter.unusedVariables false
def nsO (o : Or) : List Int := [oC o, oQ o, oK o, oR o, oS o, oT o]
theorem encI_len (n : Int) : (encI n).length ≤ 9 := by
 unfold encI
 rw [enc_length]
 have := wid_le (zig n).toNat
 omega
theorem encIs_len : ∀ l : List Int, (encIs l).length ≤ 9 * l.length
 | [] => Nat.zero_le _
 | n :: r => by
   have h1 := encI_len n
   have h2 := encIs_len r
   simp only [encIs, List.length_append, List.length_cons]
   omega
theorem encIs_take (l : List Int) (i : Nat) (hi : i < l.length) : encIs (l.take (i + 1)) = encIs (l.take i) ++ encI (l.getD i 0) := by
 rw [List.take_succ_eq_append_getElem hi, encIs_append, List.getD_eq_getElem?_getD, List.getElem?_eq_getElem hi]
 simp [encIs]
theorem encX_len (s : List UInt8) : (encX s).length ≤ 9 + s.length := by
 unfold encX
 rw [encS_length, ba_size]
 have := wid_le s.length
 omega
def rpc (r : Rp) (nv : Value) : List Value := [.int .i64 (pC r), .int .i64 (pQ r), .int .i64 (pE r), txt (pV r), .int .i64 (pR r), nv]
theorem ret_blk3O {P : Program} {fn : Func} {p u v : Tmp} {ty : TypeId} (h : fn.results = #[.cell p ty, .tmp u, .tmp v]) (tmps : Array Value) (w : World) (g : Nat) (t : TypeId) (cs : List Value) (x y : Value)
 (hp : tmps.getD p undef = .pointer (some ⟨g, 0, none⟩)) (hx : tmps.getD u undef = x) (hy : tmps.getD v undef = y) (hb : Blk w g cs t) (d : TypeDesc) (hu : P.underlying ty = some d) (hd : d.isRow = true) (hi : (P.info? ty).map (·.size) = some cs.length) :
 (results fn tmps).run P w = .ok (.tuple #[.agg cs.toArray, x, y]) w := by
 have hl := run_loadVar_row w g t ty cs.toArray (0, 0) d hb hu (by cases d <;> first | rfl | cases hd) (by simpa using hi)
 have hp' : tmps[p]?.getD undef = .pointer (some ⟨g, 0, none⟩) := by simpa using hp
 have hx' : tmps[u]?.getD undef = x := by simpa using hx
 have hy' : tmps[v]?.getD undef = y := by simpa using hy
 simp [results, h, Result.andThen, hp', hx', hy', asAddr, hl]
theorem takeO_1 {l r1 : List UInt8} {ns : List Int} {e1 : Nat} (h : takeIs 6 l = (ns, r1, e1)) (he : e1 ≠ 0) : takeO l = (or0, [], e1) := by
 unfold takeO
 rw [h, if_pos he]
theorem takeO_2 {l r1 r2 p : List UInt8} {ns : List Int} {e2 : Nat} (h : takeIs 6 l = (ns, r1, 0)) (h2 : takeS r1 100 = (p, r2, e2)) (he : e2 ≠ 0) : takeO l = (or0, [], e2) := by
 unfold takeO
 rw [h]
 simp only [h2]
 rw [if_neg (by simp), if_pos he]
theorem takeO_3 {l r1 r2 r3 p q : List UInt8} {ns : List Int} {e3 : Nat} (h : takeIs 6 l = (ns, r1, 0)) (h2 : takeS r1 100 = (p, r2, 0)) (h3 : takeS r2 1000 = (q, r3, e3)) (he : e3 ≠ 0) : takeO l = (or0, [], e3) := by
 unfold takeO
 rw [h]
 simp only [h2, h3]
 rw [if_neg (by simp), if_neg (by simp), if_pos he]
theorem takeO_4 {l r1 r2 r3 p q : List UInt8} {ns : List Int} (h : takeIs 6 l = (ns, r1, 0)) (h2 : takeS r1 100 = (p, r2, 0)) (h3 : takeS r2 1000 = (q, r3, 0)) : takeO l = if mayO (ofTaken ns p q) = true then (ofTaken ns p q, r3, 0) else (or0, [], 3) := by
 unfold takeO
 rw [h]
 simp only [h2, h3]
 rw [if_neg (by simp), if_neg (by simp), if_neg (by simp)]
 cases mayO (ofTaken ns p q) <;> simp
theorem cell_heap {w w' : World} (p : Addr) (h : w'.heap[p.block]? = w.heap[p.block]?) : w'.cell? p = w.cell? p := by
 unfold World.cell?
 rw [h]
theorem AnyTill.of_any {P : Program} {md : Region.Mode} {ops : Array Oper} {Q : Exit → Act → World → Prop} {m : Nat} : ∀ (n : Nat) (listed : Array Bool) (a : Act) (w : World), wpAny P md ops Q n listed a w → AnyTill P md ops Q (fun _ => True) m n listed a w
 | 0, _, _, _, h => h
 | n + 1, _, _, _, h => ⟨h.1, fun i hi => wpOp_mono (fun a' w' h' => ⟨.inr trivial, AnyTill.of_any n _ a' w' h'⟩) (h.2 i hi)⟩
section
variable {P : Program} {l : List Oper} {Q : Exit → Act → World → Prop} {F : (Nat → Value) → Act} {Φ : Nat → Value → World → Prop} {w0 : World}
end
end Go.Proofs.YtgfobinklijkpaaGreatDoor
