/-
  Texts J0 JA JB JC JD JE JF NB EE ER.
-/
import Derived.Test.YtgfobinklijkpaaGreatDoorX01
import Derived.WalkLawsBesides
import Derived.Deep.QuietTactic
import Derived.BigQuiet
import Derived.Test.YtgfobinklijkpaaGreatDoorX06
import Derived.Test.YtgfobinklijkpaaGreatDoorX08
import Derived.Test.YtgfobinklijkpaaGreatDoorX09
namespace Go.Proofs.YtgfobinklijkpaaGreatDoor
set_option maxRecDepth 100000
set_option maxHeartbeats 16000000
open Go.RowKit
abbrev Se := Int × Int × Int
abbrev sI (x : Se) : Int := x.1
abbrev sP (x : Se) : Int := x.2.1
abbrev sU (x : Se) : Int := x.2.2
def se0 : Se := (0, 0, 0)
def fineS (t : Int) (x : Se) : Bool := decide (1 ≤ sI x) && decide (1 ≤ sP x) && decide (sP x ≤ 1000) && decide (t < sU x) && decide (sU x ≤ t + sP x)
def okS (t : Int) (l : List Se) (i : Nat) : Bool := fineS t (l.getD i se0) && (decide (i = 0) || decide (sI (l.getD (i - 1) se0) < sI (l.getD i se0)))
def rightS (t : Int) (l : List Se) : Bool := decide (0 ≤ t) && decide (t ≤ 1000000000) && decide (l.length ≤ 50) && (List.range l.length).all (okS t l)
def hasSe (l : List Se) (id : Int) : Bool := l.any fun x => sI x == id
def insS (x : Se) : List Se → List Se
 | [] => [x]
 | y :: r => if sI x < sI y then x :: y :: r else y :: insS x r
def openE (l : List Se) (id sp : Int) : Nat := if id < 1 ∨ sp < 1 ∨ 1000 < sp then 1 else if hasSe l id = true then 7 else if 50 ≤ l.length then 9 else 0
def openS (t : Int) (l : List Se) (id sp : Int) : List Se := if openE l id sp = 0 then insS (id, sp, t + sp) l else l
def leaseE (l : List Se) (id : Int) : Nat := if hasSe l id = true then 0 else 14
def touch1 (t id : Int) (x : Se) : Se := if sI x = id then (sI x, sP x, t + sP x) else x
def touchS (t : Int) (l : List Se) (id : Int) : List Se := l.map (touch1 t id)
def closeS (l : List Se) (id : Int) : List Se := l.filter fun x => decide (sI x ≠ id)
def tickE (t z : Int) : Nat := if z < t then 15 else if 1000000000 < z then 5 else 0
def tickT (t z : Int) : Int := if tickE t z = 0 then z else t
def lateS (z : Int) (x : Se) : Bool := decide (sU x ≤ z)
def tickS (t : Int) (l : List Se) (z : Int) : List Se := if tickE t z = 0 then l.filter fun x => !lateS z x else l
def goneS (t : Int) (l : List Se) (z : Int) : List Int := if tickE t z = 0 then (l.filter (lateS z)).map sI else []
def ordS (l : List Se) : Prop := l.Pairwise fun x y => sI x < sI y
structure RightB (t : Int) (l : List Se) : Prop where
 lo : 0 ≤ t
 hi : t ≤ 1000000000
 few : l.length ≤ 50
 fine : ∀ x ∈ l, fineS t x = true
 order : ordS l
theorem getD_memS (l : List Se) (i : Nat) (hi : i < l.length) : l.getD i se0 ∈ l := by
 rw [List.getD_eq_getElem?_getD, List.getElem?_eq_getElem hi]
 exact List.getElem_mem _
theorem mem_getDS (l : List Se) (x : Se) (hx : x ∈ l) : ∃ i, i < l.length ∧ l.getD i se0 = x := by
 obtain ⟨i, hi, rfl⟩ := List.getElem_of_mem hx
 exact ⟨i, hi, by rw [List.getD_eq_getElem?_getD, List.getElem?_eq_getElem hi]; rfl⟩
theorem ordS_steps : ∀ (l : List Se), (∀ i, i + 1 < l.length → sI (l.getD i se0) < sI (l.getD (i + 1) se0)) → ordS l
 | [], _ => List.Pairwise.nil
 | [x], _ => by simp [ordS]
 | x :: y :: r, h => by
   have ih := ordS_steps (y :: r) fun i hi => by
    have := h (i + 1) (by simpa using hi)
    simpa using this
   have h0 : sI x < sI y := by simpa using h 0 (by simp)
   refine List.Pairwise.cons ?_ ih
   intro z hz
   rcases List.mem_cons.1 hz with rfl | hz
   ·exact h0
   ·exact Int.lt_trans h0 (List.rel_of_pairwise_cons ih hz)
theorem ordS_at (l : List Se) (h : ordS l) (i j : Nat) (hij : i < j) (hj : j < l.length) : sI (l.getD i se0) < sI (l.getD j se0) := by
 have := (List.pairwise_iff_getElem.1 h) i j (by omega) hj hij
 simpa [List.getD_eq_getElem?_getD, List.getElem?_eq_getElem hj, List.getElem?_eq_getElem (show i < l.length by omega)] using this
theorem rightS_iff (t : Int) (l : List Se) : rightS t l = true ↔ RightB t l := by
 unfold rightS
 simp only [Bool.and_eq_true, decide_eq_true_eq, List.all_eq_true, List.mem_range]
 constructor
 ·rintro ⟨⟨⟨h1, h2⟩, h3⟩, h4⟩
  have hk : ∀ i, i < l.length → fineS t (l.getD i se0) = true ∧ (i = 0 ∨ sI (l.getD (i - 1) se0) < sI (l.getD i se0)) := by
   intro i hi
   have := h4 i hi
   unfold okS at this
   simpa only [Bool.and_eq_true, Bool.or_eq_true, decide_eq_true_eq] using this
  refine ⟨h1, h2, h3, ?_, ?_⟩
  ·intro x hx
   obtain ⟨i, hi, rfl⟩ := mem_getDS l x hx
   exact (hk i hi).1
  ·refine ordS_steps l fun i hi => ?_
   rcases (hk (i + 1) hi).2 with e | e
   ·omega
   ·simpa using e
 ·rintro ⟨h1, h2, h3, h4, h5⟩
  refine ⟨⟨⟨h1, h2⟩, h3⟩, fun i hi => ?_⟩
  unfold okS
  simp only [Bool.and_eq_true, Bool.or_eq_true, decide_eq_true_eq]
  refine ⟨h4 _ (getD_memS l i hi), ?_⟩
  by_cases h0 : i = 0
  ·exact .inl h0
  ·exact .inr (ordS_at l h5 (i - 1) i (by omega) hi)
theorem hasS_iff (l : List Se) (id : Int) : hasSe l id = true ↔ ∃ x ∈ l, sI x = id := by
 unfold hasSe
 rw [List.any_eq_true]
 simp
theorem hasSe_not (l : List Se) (id : Int) : hasSe l id = false ↔ ∀ x ∈ l, sI x ≠ id := by
 rw [← Bool.not_eq_true, hasS_iff]
 simp
theorem insS_mem (x : Se) : ∀ (l : List Se) (y : Se), y ∈ insS x l ↔ y = x ∨ y ∈ l
 | [], y => by simp [insS]
 | z :: r, y => by
   unfold insS
   split
   ·simp
   ·rw [List.mem_cons, insS_mem x r y, List.mem_cons]
    constructor
    ·rintro (h | h | h)
     ·exact .inr (.inl h)
     ·exact .inl h
     ·exact .inr (.inr h)
    ·rintro (h | h | h)
     ·exact .inr (.inl h)
     ·exact .inl h
     ·exact .inr (.inr h)
theorem insS_len (x : Se) : ∀ l : List Se, (insS x l).length = l.length + 1
 | [] => rfl
 | z :: r => by
   unfold insS
   split
   ·simp
   ·simp [insS_len x r]
theorem insS_ord (x : Se) : ∀ l : List Se, ordS l → (∀ y ∈ l, sI y ≠ sI x) → ordS (insS x l)
 | [], _, _ => by simp [insS, ordS]
 | z :: r, h, hn => by
   unfold insS
   split
   ·rename_i hlt
    refine List.Pairwise.cons ?_ h
    intro y hy
    rcases List.mem_cons.1 hy with rfl | hy
    ·exact hlt
    ·exact Int.lt_trans hlt (List.rel_of_pairwise_cons h hy)
   ·rename_i hlt
    refine List.Pairwise.cons ?_ (insS_ord x r h.of_cons fun y hy => hn y (List.mem_cons_of_mem _ hy))
    intro y hy
    rcases (insS_mem x r y).1 hy with rfl | hy
    ·have := hn z (List.mem_cons_self ..)
     omega
    ·exact List.rel_of_pairwise_cons h hy
theorem open_yes (l : List Se) (id sp : Int) (h : openE l id sp = 0) : 1 ≤ id ∧ 1 ≤ sp ∧ sp ≤ 1000 ∧ hasSe l id = false ∧ l.length < 50 := by
 unfold openE at h
 split at h
 ·cases h
 ·rename_i h1
  split at h
  ·cases h
  ·rename_i h2
   split at h
   ·cases h
   ·rename_i h3
    exact ⟨by omega, by omega, by omega, by simpa using h2, by omega⟩
theorem right_open (t : Int) (l : List Se) (id sp : Int) (h : RightB t l) : RightB t (openS t l id sp) := by
 unfold openS
 split
 ·rename_i he
  obtain ⟨h1, h2, h3, h4, h5⟩ := open_yes l id sp he
  refine ⟨h.lo, h.hi, by rw [insS_len]; omega, ?_, insS_ord _ _ h.order fun y hy e => (hasSe_not l id).1 h4 y hy e⟩
  intro x hx
  rcases (insS_mem _ l x).1 hx with rfl | hx
  ·simp only [fineS, sI, sP, sU, Bool.and_eq_true, decide_eq_true_eq]; omega
  ·exact h.fine x hx
 ·exact h
theorem fine_touch (t id : Int) (x : Se) (h : fineS t x = true) : fineS t (touch1 t id x) = true := by
 unfold touch1
 split
 ·simp only [fineS, sI, sP, sU, Bool.and_eq_true, decide_eq_true_eq] at h ⊢
  omega
 ·exact h
theorem touch_id (t id : Int) (x : Se) : sI (touch1 t id x) = sI x := by
 unfold touch1
 split <;> rfl
theorem right_touch (t : Int) (l : List Se) (id : Int) (h : RightB t l) : RightB t (touchS t l id) := by
 refine ⟨h.lo, h.hi, by unfold touchS; rw [List.length_map]; exact h.few, ?_, ?_⟩
 ·intro x hx
  obtain ⟨y, hy, rfl⟩ := List.mem_map.1 hx
  exact fine_touch t id y (h.fine y hy)
 ·unfold touchS ordS
  rw [List.pairwise_map]
  exact h.order.imp fun {a b} hab => by rw [touch_id, touch_id]; exact hab
theorem right_close (t : Int) (l : List Se) (id : Int) (h : RightB t l) : RightB t (closeS l id) :=
 ⟨h.lo, h.hi, Nat.le_trans (List.length_filter_le _ _) h.few, fun x hx => h.fine x (List.mem_filter.1 hx).1, h.order.filter _⟩
theorem tick_yes (t z : Int) (h : tickE t z = 0) : t ≤ z ∧ z ≤ 1000000000 := by
 unfold tickE at h
 split at h
 ·cases h
 ·split at h
  ·cases h
  ·omega
theorem right_tick (t : Int) (l : List Se) (z : Int) (h : RightB t l) : RightB (tickT t z) (tickS t l z) := by
 unfold tickT tickS
 split
 ·rename_i he
  obtain ⟨h1, h2⟩ := tick_yes t z he
  refine ⟨by have := h.lo; omega, h2, Nat.le_trans (List.length_filter_le _ _) h.few, ?_, h.order.filter _⟩
  intro x hx
  have hm := List.mem_filter.1 hx
  have hf := h.fine x hm.1
  have hl := hm.2
  simp only [lateS, Bool.not_eq_true', decide_eq_false_iff_not] at hl
  simp only [fineS, Bool.and_eq_true, decide_eq_true_eq] at hf ⊢
  omega
 ·exact h
def sec (x : Se) : List Value := [.int .i64 (sI x), .int .i64 (sP x), .int .i64 (sU x)]
theorem sec_one (x : Se) : ∀ u ∈ sec x, u.oneCell' = true := by
 intro u hu
 unfold sec at hu
 simp only [List.mem_cons, List.not_mem_nil, or_false] at hu
 rcases hu with rfl | rfl | rfl <;> rfl
def SeK : RowK Se := { enc := sec, k := 3, d := se0, len := fun _ => rfl, one := sec_one, pos := by decide }
def inc (x : Int) : List Value := [.int .i64 x]
def InK : RowK Int := { enc := inc, k := 1, d := 0, len := fun _ => rfl, one := fun x u hu => by unfold inc at hu; simp only [List.mem_cons, List.not_mem_nil, or_false] at hu; rw [hu]; rfl, pos := by decide }
theorem RdE.at3 {B : Nat} {w : World} {A : Option Addr} {n c : Nat} {l : List Se} (h : RdE SeK B w (.slice A n c) l) (j : Nat) (hj : j < l.length) :
 ∃ a, A = some a ∧ w.cell? (a.add (j * 3)) = some (.int .i64 (sI (l.getD j se0))) ∧ w.cell? ⟨(a.add (j * 3)).block, (a.add (j * 3)).off + 1, none⟩ = some (.int .i64 (sP (l.getD j se0))) ∧
   w.cell? ⟨(a.add (j * 3)).block, (a.add (j * 3)).off + 2, none⟩ = some (.int .i64 (sU (l.getD j se0))) := by
 obtain ⟨a, ha, hc⟩ := h.cells j hj
 exact ⟨a, ha, hc 0 (by decide), hc 1 (by decide), hc 2 (by decide)⟩
theorem RdE.at1 {B : Nat} {w : World} {A : Option Addr} {n c : Nat} {l : List Int} (h : RdE InK B w (.slice A n c) l) (j : Nat) (hj : j < l.length) :
 ∃ a, A = some a ∧ w.cell? (a.add j) = some (.int .i64 (l.getD j 0)) := by
 obtain ⟨a, ha, hc⟩ := h.cells j hj
 have h0 := hc 0 (by decide)
 rw [show j * InK.k = j from Nat.mul_one j] at h0
 exact ⟨a, ha, h0⟩
theorem book_one (t : Int) (A : Option Addr) (n c : Nat) : [Value.int .i64 t, .slice A n c].toArray.all (·.oneCell') = true := by
 rw [Array.all_eq_true_iff_forall_mem]
 intro v hv
 simp at hv
 rcases hv with rfl | rfl <;> rfl
def Book1 (t : Int) (l : List Se) (w : World) (e : Ending) (w' : World) : Prop := ∃ v, e = .returned (.agg #[.int .i64 t, v]) ∧ RdE SeK w'.heap.size w' v l ∧ Below w.heap.size w w'
theorem ret_blk3K {P : Program} {fn : Func} {p u v : Tmp} {ty : TypeId} (h : fn.results = #[.cell p ty, .tmp u, .tmp v]) (tmps : Array Value) (w : World) (g : Nat) (t : TypeId) (cs : List Value) (x y : Value)
 (hp : tmps.getD p undef = .pointer (some ⟨g, 0, none⟩)) (hx : tmps.getD u undef = x) (hy : tmps.getD v undef = y) (hb : Blk w g cs t) (d : TypeDesc) (hu : P.underlying ty = some d) (hd : d.isRow = true) (hi : (P.info? ty).map (·.size) = some cs.length) :
 (results fn tmps).run P w = .ok (.tuple #[.agg cs.toArray, x, y]) w := by
 have hl := run_loadVar_row w g t ty cs.toArray (0, 0) d hb hu (by cases d <;> first | rfl | cases hd) (by simpa using hi)
 have hp' : tmps[p]?.getD undef = .pointer (some ⟨g, 0, none⟩) := by simpa using hp
 have hx' : tmps[u]?.getD undef = x := by simpa using hx
 have hy' : tmps[v]?.getD undef = y := by simpa using hy
 simp [results, h, Result.andThen, hp', hx', hy', asAddr, hl]
theorem kindIn : KindOf Tryz.prog 3 InK 8 := kind_of (z := .int .i64 0) (by kernel_rfl) rfl
theorem rfUses_any (k : Int) (w : World) : Calls Tryz.prog 69 #[.int .i64 k] w (One (txt (usesT k)) w) := by
 by_cases h1 : k = 1
 ·subst h1
  go_enter Tryz.func69, Tryz.ntmps69
  go_wp2
  go_ret
  exact ⟨rfl, Below.refl _ _⟩
 have b1 : (k == 1) = false := by rw [beq_eq_false_iff_ne]; exact h1
 by_cases h2 : k = 2
 ·subst h2
  go_enter Tryz.func69, Tryz.ntmps69
  go_wp2
  go_ret
  exact ⟨rfl, Below.refl _ _⟩
 have b2 : (k == 2) = false := by rw [beq_eq_false_iff_ne]; exact h2
 by_cases h5 : k = 5
 ·subst h5
  go_enter Tryz.func69, Tryz.ntmps69
  go_wp2
  go_ret
  exact ⟨rfl, Below.refl _ _⟩
 have b5 : (k == 5) = false := by rw [beq_eq_false_iff_ne]; exact h5
 by_cases h10 : k = 10
 ·subst h10
  go_enter Tryz.func69, Tryz.ntmps69
  go_wp2
  go_ret
  exact ⟨rfl, Below.refl _ _⟩
 have b10 : (k == 10) = false := by rw [beq_eq_false_iff_ne]; exact h10
 by_cases h11 : k = 11
 ·subst h11
  go_enter Tryz.func69, Tryz.ntmps69
  go_wp2
  go_ret
  exact ⟨rfl, Below.refl _ _⟩
 have b11 : (k == 11) = false := by rw [beq_eq_false_iff_ne]; exact h11
 by_cases h3 : k = 3
 ·subst h3
  go_enter Tryz.func69, Tryz.ntmps69
  go_wp2
  go_ret
  exact ⟨rfl, Below.refl _ _⟩
 have b3 : (k == 3) = false := by rw [beq_eq_false_iff_ne]; exact h3
 by_cases h4 : k = 4
 ·subst h4
  go_enter Tryz.func69, Tryz.ntmps69
  go_wp2
  go_ret
  exact ⟨rfl, Below.refl _ _⟩
 have b4 : (k == 4) = false := by rw [beq_eq_false_iff_ne]; exact h4
 by_cases h6 : k = 6
 ·subst h6
  go_enter Tryz.func69, Tryz.ntmps69
  go_wp2
  go_ret
  exact ⟨rfl, Below.refl _ _⟩
 have b6 : (k == 6) = false := by rw [beq_eq_false_iff_ne]; exact h6
 by_cases h7 : k = 7
 ·subst h7
  go_enter Tryz.func69, Tryz.ntmps69
  go_wp2
  go_ret
  exact ⟨rfl, Below.refl _ _⟩
 have b7 : (k == 7) = false := by rw [beq_eq_false_iff_ne]; exact h7
 by_cases h8 : k = 8
 ·subst h8
  go_enter Tryz.func69, Tryz.ntmps69
  go_wp2
  go_ret
  exact ⟨rfl, Below.refl _ _⟩
 have b8 : (k == 8) = false := by rw [beq_eq_false_iff_ne]; exact h8
 by_cases h9 : k = 9
 ·subst h9
  go_enter Tryz.func69, Tryz.ntmps69
  go_wp2
  go_ret
  exact ⟨rfl, Below.refl _ _⟩
 have b9 : (k == 9) = false := by rw [beq_eq_false_iff_ne]; exact h9
 have HU : Hid (usesT k = []) := by
  show _ = _
  unfold usesT
  simp [h1, h2, h5, h10, h11, h3, h4, h6, h7, h8, h9]
 clear h1 h2 h5 h10 h11 h3 h4 h6 h7 h8 h9
 go_enter Tryz.func69, Tryz.ntmps69
 go_wp2
 go_ret
 exact ⟨by rw [HU.out]; rfl, Below.refl _ _⟩
theorem rfIn_any (s : List UInt8) (d : UInt8) (w : World) (hs : s.length ≤ 1000000) : Calls Tryz.prog 70 #[txt s, .int .u8 (d.toNat : Int)] w (One (.bool (s.contains d)) w) := by
 obtain ⟨n, hn⟩ : ∃ n, s.length = n := ⟨_, rfl⟩
 have hsz : (⟨s.toArray⟩ : ByteArray).size = n := hn
 have HN := lhd hn
 rw [hn] at hs
 obtain ⟨B, hB⟩ : ∃ B, s.contains d = B := ⟨_, rfl⟩
 have HB := lhd hB
 rw [hB]
 clear hB
 go_enter Tryz.func70, Tryz.ntmps70
 go_wp2
 go_loop [5] (fun x => ∃ i : Nat, i ≤ n ∧ x = .int .i64 (i : Int) ∧ Hid (d ∉ s.take i)) (fun x => n - (intOf x).toNat)
 case atStart => exact ⟨0, by omega, rfl, by show _ ∉ _; simp⟩
 case round =>
  obtain ⟨i, hi, rfl, HA⟩ := hrel
  by_cases hi2 : i < n
  ·have hix := run_index_txt s i (by rw [hn]; exact hi2)
   obtain ⟨c, hc⟩ : ∃ c, s.getD i 0 = c := ⟨_, rfl⟩
   rw [hc] at hix
   have HT : Hid (s.take (i + 1) = s.take i ++ [c]) := by
    show _ = _
    rw [← hc]
    rw [List.take_succ_eq_append_getElem (by rw [hn]; exact hi2), List.getD_eq_getElem?_getD, List.getElem?_eq_getElem (by rw [hn]; exact hi2)]
    rfl
   have HM : Hid (c ∈ s) := by
    show _ ∈ _
    rw [← hc, List.getD_eq_getElem?_getD, List.getElem?_eq_getElem (by rw [hn]; exact hi2)]
    exact List.getElem_mem _
   have zi : (i : Int) < (n : Int) := by omega
   clear hc hn
   by_cases he : c = d
   ·subst he
    have HF : Hid (B = true) := by
     show _ = _
     rw [← HB.out, List.contains_iff_mem]
     exact HM.out
    have hee : ((c.toNat : Int) == (c.toNat : Int)) = true := by simp
    go_wp2
    go_ret
    exact ⟨by rw [HF.out]; rfl, Below.refl _ _⟩
   ·have hee : ((c.toNat : Int) == (d.toNat : Int)) = false := by
     rw [beq_eq_false_iff_ne]
     intro h
     exact he (UInt8.toNat_inj.1 (by omega))
    have HD : Hid (d ∉ s.take (i + 1)) := by
     show _ ∉ _
     rw [HT.out, List.mem_append]
     rintro (h | h)
     ·exact HA.out h
     ·exact he (List.mem_singleton.1 h).symm
    clear he
    go_wp2
    go_round
    case rel => exact ⟨i + 1, by omega, by go_num, HD⟩
    case measure => simp [intOf]; omega
  ·obtain rfl : i = n := by omega
   have HF : Hid (B = false) := by
    show _ = _
    rw [← HB.out]
    have h := HA.out
    rw [List.take_of_length_le (by rw [HN.out]; exact Nat.le_refl _)] at h
    rw [Bool.eq_false_iff]
    intro h2
    exact h (List.contains_iff_mem.1 h2)
   go_wp2
   go_ret
   exact ⟨by rw [HF.out]; rfl, Below.refl _ _⟩
set_option linter.unusedVariables false
set_option linter.unusedVariables false
theorem refTake_nil (A : Option Addr) (c : Nat) (B : Nat) (w : World) : Calls Tryz.prog 38 #[.slice A 0 c] w (CutN B (takeN []) w) := by
 go_enter Tryz.func38, Tryz.ntmps38
 go_wp2
 go_ret3
 exact ⟨_, rfl, Rd.nil _ _, Below.refl _ _⟩
theorem refTake_big (a : Addr) (k : UInt8) (n c : Nat) (B : Nat) (w : World) (h0 : 0 < n) (hn : n ≤ 9223372036854775807) (hc0 : w.cell? a = some (.int .u8 (k.toNat : Int))) (hk : 8 < (k.toNat : Int)) : Calls Tryz.prog 38 #[.slice (some a) n c] w (CutN B (0, [], 3) w) := by
 have hk2 := UInt8.toNat_lt k
 have hz : ((n : Int) == 0) = false := by simp; omega
 go_enter Tryz.func38, Tryz.ntmps38
 go_wp2
 go_ret3
 exact ⟨_, rfl, Rd.nil _ _, Below.refl _ _⟩
theorem refTake_zero (a : Addr) (k : UInt8) (n c : Nat) (B : Nat) (w : World) (h0 : 1 < n) (hn : n ≤ 9223372036854775807) (hc0 : w.cell? a = some (.int .u8 (k.toNat : Int))) (hc1 : w.cell? ⟨a.block, a.off + 1, none⟩ = some (.int .u8 0)) (hk : (k.toNat : Int) ≤ 8) (hk0 : 0 < (k.toNat : Int)) : Calls Tryz.prog 38 #[.slice (some a) n c] w (CutN B (0, [], 3) w) := by
 have hz : ((n : Int) == 0) = false := by simp; omega
 have h8 : decide (8 < (k.toNat : Int)) = false := by simp; omega
 go_enter Tryz.func38, Tryz.ntmps38
 go_wp2
 go_ret3
 exact ⟨_, rfl, Rd.nil _ _, Below.refl _ _⟩
theorem refTake_short1 (a : Addr) (k : UInt8) (c : Nat) (B : Nat) (w : World) (hc0 : w.cell? a = some (.int .u8 (k.toNat : Int))) (hk : (k.toNat : Int) ≤ 8) (hk0 : 0 < (k.toNat : Int)) : Calls Tryz.prog 38 #[.slice (some a) 1 c] w (CutN B (0, [], 2) w) := by
 have h8 : decide (8 < (k.toNat : Int)) = false := by simp; omega
 go_enter Tryz.func38, Tryz.ntmps38
 go_wp2
 go_ret3
 exact ⟨_, rfl, Rd.nil _ _, Below.refl _ _⟩
theorem refTake_short2 (a : Addr) (k d : UInt8) (n c : Nat) (B : Nat) (w : World) (h0 : 1 < n) (hn : n ≤ 9223372036854775807) (hc0 : w.cell? a = some (.int .u8 (k.toNat : Int))) (hc1 : w.cell? ⟨a.block, a.off + 1, none⟩ = some (.int .u8 (d.toNat : Int))) (hd : 0 < (d.toNat : Int)) (hk : (k.toNat : Int) ≤ 8) (hk0 : 0 < (k.toNat : Int)) (hs : (n : Int) < 1 + (k.toNat : Int)) :
 Calls Tryz.prog 38 #[.slice (some a) n c] w (CutN B (0, [], 2) w) := by
 have hz : ((n : Int) == 0) = false := by simp; omega
 have hd2 : ((d.toNat : Int) == 0) = false := by simp; omega
 have h8 : decide (8 < (k.toNat : Int)) = false := by simp; omega
 go_enter Tryz.func38, Tryz.ntmps38
 go_wp2
 go_ret3
 exact ⟨_, rfl, Rd.nil _ _, Below.refl _ _⟩
theorem refTake_none (a : Addr) (n c : Nat) (w : World) (h0 : 0 < n) (hn : n ≤ c) (hc : c ≤ 9223372036854775807) (hc0 : w.cell? a = some (.int .u8 0)) :
 Calls Tryz.prog 38 #[.slice (some a) n c] w fun e w' => e = .returned (.tuple #[.int .u64 0, .slice (if c = 1 then some a else some ⟨a.block, a.off + 1, none⟩) (n - 1) (c - 1), .int .i64 0]) ∧ Below w.heap.size w w' := by
 have hz : ((n : Int) == 0) = false := by simp; omega
 by_cases hc1 : c = 1
 ·subst hc1
  obtain rfl : n = 1 := by omega
  go_enter Tryz.func38, Tryz.ntmps38
  go_wp2
  refine wp_loop_rounds 1 ?_
  rw [rounds_succ]
  go_wp2
  go_quiet (fail)
  go_wp2
  go_ret3
  exact ⟨rfl, below_drewN _ _ _⟩
 ·go_enter Tryz.func38, Tryz.ntmps38
  go_wp2
  refine wp_loop_rounds 1 ?_
  rw [rounds_succ]
  go_wp2
  go_quiet (fail)
  go_wp2
  go_ret3
  exact ⟨rfl, below_drewN _ _ _⟩
theorem refTake_ok (a : Addr) (k d : UInt8) (t : List UInt8) (n c : Nat) (w : World) (hnc : n ≤ c) (hc : c ≤ 9223372036854775807) (hc0 : w.cell? a = some (.int .u8 (k.toNat : Int))) (hc1 : w.cell? ⟨a.block, a.off + 1, none⟩ = some (.int .u8 (d.toNat : Int))) (hd : 0 < (d.toNat : Int))
 (hk : (k.toNat : Int) ≤ 8) (hk0 : 0 < (k.toNat : Int)) (hs : 1 + (k.toNat : Int) ≤ (n : Int)) (ht : k.toNat ≤ t.length) (hct : ∀ j (h : j < t.length), w.cell? ⟨a.block, a.off + 1 + j, none⟩ = some (.int .u8 (t[j].toNat : Int))) :
 Calls Tryz.prog 38 #[.slice (some a) n c] w fun e w' => e = .returned (.tuple #[.int .u64 (val (t.take k.toNat) : Int), .slice (if c = 1 + k.toNat then some a else some (a.add (1 + k.toNat))) (n - (1 + k.toNat)) (c - (1 + k.toNat)), .int .i64 0]) ∧ Below w.heap.size w w' := by
 have hz : ((n : Int) == 0) = false := by simp; omega
 have hd2 : ((d.toNat : Int) == 0) = false := by simp; omega
 have h8 : decide (8 < (k.toNat : Int)) = false := by simp; omega
 have hs2 : decide ((n : Int) < 1 + (k.toNat : Int)) = false := by simp; omega
 have hc2 : ¬ c = 1 := by omega
 have HT := lhd hct
 clear hct
 go_enter Tryz.func38, Tryz.ntmps38
 go_wp2
 go_loop [6, 7] (fun x i => ∃ j : Nat, j ≤ k.toNat ∧ i = .int .i64 ((j : Int) + 1) ∧ x = .int .u64 (val (t.take j) : Int)) (fun _ i => (k.toNat + 1 - intOf i).toNat)
 case atStart => exact ⟨0, Nat.zero_le _, rfl, rfl⟩
 case round =>
  obtain ⟨j, hj, rfl, rfl⟩ := hrel
  by_cases hlt : j < k.toNat
  ·have hcj : w.cell? ⟨a.block, a.off + (j + 1), none⟩ = some (.int .u8 (t[j].toNat : Int)) := by
    have h := HT.out j (by omega)
    rw [show a.off + 1 + j = a.off + (j + 1) by omega] at h
    exact h
   have hv := val_take_lt t j (by omega)
   have hb := UInt8.toNat_lt t[j]
   have HV := lhd (val_take t j (by omega))
   generalize val (t.take j) = V at *
   generalize t[j].toNat = C at *
   have hv2 : (V : Int) ≤ 72057594037927935 := by omega
   have hb2 : (C : Int) ≤ 255 := by omega
   clear hv hb
   go_wp2
   go_round
   case rel => exact ⟨j + 1, by omega, by go_num, by rw [HV.out]; go_num⟩
   case measure => simp [intOf]; omega
  ·obtain rfl : j = k.toNat := by omega
   go_wp2
   go_quiet (fail)
   go_wp2
   all_goals
    go_ret3
    exact ⟨rfl, below_drewN _ _ _⟩
theorem refTake_any (v : Value) (l : List UInt8) (B : Nat) (w : World) (hr : Rd B w v l) (hB : B ≤ w.heap.size) : Calls Tryz.prog 38 #[v] w (CutN B (takeN l) w) := by
 have hr0 := hr
 obtain ⟨A, c, rfl, hc, hm, hn, hcell⟩ := hr
 unfold maxLen at hm
 match l with
 | [] => exact refTake_nil A c B w
 | k :: t =>
   cases A with
   | none =>
     have := hn rfl
     simp at hc
     omega
   | some a =>
     have hl : (k :: t).length = t.length + 1 := rfl
     rw [hl] at hc hr0
     have hc0 : w.cell? a = some (.int .u8 (k.toNat : Int)) := by
      have h := (hcell a rfl).2 0 (by simp)
      simpa [Addr.add] using h
     have hct : ∀ j (h : j < t.length), w.cell? ⟨a.block, a.off + 1 + j, none⟩ = some (.int .u8 (t[j].toNat : Int)) := by
      intro j h
      have h2 := (hcell a rfl).2 (j + 1) (by simpa using h)
      rw [show a.add (j + 1) = ⟨a.block, a.off + 1 + j, none⟩ from by simp [Addr.add]; omega] at h2
      simpa using h2
     have hk2 := UInt8.toNat_lt k
     show Calls Tryz.prog 38 #[.slice (some a) (t.length + 1) c] w _
     rw [takeN]
     by_cases h8 : 8 < k.toNat
     ·rw [if_pos (.inl h8)]
      exact refTake_big a k _ c B w (by omega) (by omega) hc0 (by omega)
     by_cases hk0 : k.toNat = 0
     ·have hk : k = 0 := UInt8.toNat_inj.1 (by simpa using hk0)
      subst hk
      rw [if_neg (by simp), if_neg (by simp)]
      refine (refTake_none a (t.length + 1) c w (by omega) hc (by omega) hc0).mono ?_
      rintro e w' ⟨rfl, hb⟩
      have hd := (hr0.below (hb.mono hB)).drop 1 (by omega)
      refine ⟨_, rfl, ?_, hb⟩
      simpa [Addr.add] using hd
     cases t with
     | nil =>
       rw [if_neg (by simp; omega), if_pos (by simp; omega)]
       exact refTake_short1 a k c B w hc0 (by omega) (by omega)
     | cons d u =>
       have hc1 : w.cell? ⟨a.block, a.off + 1, none⟩ = some (.int .u8 (d.toNat : Int)) := hct 0 (by simp)
       by_cases hd0 : d = 0
       ·subst hd0
        rw [if_pos (.inr ⟨by omega, rfl⟩)]
        exact refTake_zero a k _ c B w (by simp) (by omega) hc0 hc1 (by omega) (by omega)
       ·have hdp : 0 < (d.toNat : Int) := by
         rcases Nat.eq_zero_or_pos d.toNat with h | h
         ·exact absurd (UInt8.toNat_inj.1 (by simpa using h)) hd0
         ·omega
        rw [if_neg (by rintro (h | ⟨_, h⟩); exact h8 h; simp at h; exact hd0 h)]
        by_cases hs : (d :: u).length < k.toNat
        ·rw [if_pos hs]
         exact refTake_short2 a k d _ c B w (by simp) (by omega) hc0 hc1 hdp (by omega) (by omega) (by omega)
        ·rw [if_neg hs]
         refine (refTake_ok a k d (d :: u) _ c w hc (by omega) hc0 hc1 hdp (by omega) (by omega) (by omega) (by omega) hct).mono ?_
         rintro e w' ⟨rfl, hb⟩
         have hd := (hr0.below (hb.mono hB)).drop (1 + k.toNat) (by omega)
         refine ⟨_, rfl, ?_, hb⟩
         rw [show (k :: d :: u).drop (1 + k.toNat) = (d :: u).drop k.toNat from by rw [Nat.add_comm]; rfl] at hd
         exact hd
set_option linter.unusedVariables false
theorem OwnS.made (e : TypeId) (w : World) : OwnS e (w.alloc (.cells #[] e)) w.heap.size (.slice (some ⟨w.heap.size, 0, none⟩) 0 0) [] :=
 World.ownsRow_made w #[] 0 (Nat.le_refl _) (Nat.zero_le _) rfl
theorem refText_any (v : Value) (l : List UInt8) (m : Int) (B : Nat) (w : World) (hr : Rd B w v l) (hB : B ≤ w.heap.size) (m0 : -9223372036854775808 ≤ m) (m1 : m ≤ 9223372036854775807) :
 Calls Tryz.prog 78 #[v, .int .i64 m] w (CutS B (takeS l m) w) := by
 have hn := takeN_lt l
 have HR := lhd hr
 clear hr
 go_enter Tryz.func78, Tryz.ntmps78
 go_wp2_with fail
 refine (refTake_any v l B w HR.out hB).mono ?_
 rintro e w1 ⟨v1, rfl, hr1, hb1⟩
 generalize hT : takeN l = r at *
 obtain ⟨n, rest, er⟩ := r
 have hn2 : (n : Int) ≤ 18446744073709551615 := by have h : n < 18446744073709551616 := hn; omega
 have hr1' : Rd B w1 v1 rest := hr1
 have HR1 := lhd hr1'
 have HB1 := lhd hb1
 have HT := lhd hT
 clear hr1 hr1' hb1 hn hT
 by_cases he : er = 0
 ·subst he
  by_cases hab : max m 0 < (n : Int)
  ·have HS := lhd (takeS_large HT.out hab)
   have hab3 : decide (max m 0 < (n : Int)) = true := by simpa using hab
   go_wp2
   go_ret3
   rw [HS.out]
   exact ⟨_, rfl, Rd.nil _ _, HB1.out⟩
  ·have hab2 : (n : Int) ≤ max m 0 := by omega
   have HAB := lhd hab2
   clear hab hab2
   obtain ⟨A1, c1, hv1, hc1, hm1⟩ := HR1.out.shape
   unfold maxLen at hm1
   rw [hv1] at HR1 ⊢
   clear hv1
   have hab3 : decide (max m 0 < (n : Int)) = false := by simpa using HAB.out
   by_cases hsh : rest.length < n
   ·have HS := lhd (takeS_short HT.out HAB.out hsh)
    go_wp2
    go_ret3
    rw [HS.out]
    exact ⟨_, rfl, Rd.nil _ _, HB1.out⟩
   ·have HS := lhd (takeS_ok HT.out HAB.out hsh)
    cases A1 with
    | none =>
      obtain ⟨A', c', hv', h1', h2', h3', _⟩ := HR1.out
      injection hv' with e1 e2 e3
      subst e1 e3
      have hc0 := h3' rfl
      subst hc0
      have hr0 : rest = [] := List.eq_nil_of_length_eq_zero (by omega)
      subst hr0
      have hn0 : n = 0 := by simp at hsh; exact hsh
      subst hn0
      have hst : ∀ nq, (convert 92 9 (.slice none 0 0)).run Tryz.prog (w1.drewN nq) = .ok (.string ⟨#[]⟩) (w1.drewN nq) := fun nq => run_string_rd (l := []) 92 9 5 Tryz.underlying92 Tryz.underlying5 Tryz.underlying9 (Rd.nil B (w1.drewN nq))
      go_wp2
      go_quiet (fail)
      go_wp2
      go_ret3
      rw [HS.out]
      exact ⟨_, rfl, Rd.nil _ _, HB1.out.trans (below_drewN _ _ _)⟩
    | some a =>
      have hst : ∀ nq, (convert 92 9 (.slice (some a) n c1)).run Tryz.prog (w1.drewN nq) = .ok (.string ⟨(rest.take n).toArray⟩) (w1.drewN nq) := fun nq => run_string_rd (w := w1.drewN nq) 92 9 5 Tryz.underlying92 Tryz.underlying5 Tryz.underlying9 (HR1.out.take n (by omega))
      have hdr := HR1.out.drop n (by omega)
      by_cases hcn : c1 = n
      ·subst hcn
       rw [if_pos rfl, Nat.sub_self, show rest.length - c1 = 0 by omega] at hdr
       have HD := lhd hdr
       clear hdr
       go_wp2
       go_quiet (fail)
       go_wp2
       go_ret3
       rw [HS.out]
       exact ⟨_, rfl, HD.out, HB1.out.trans (below_drewN _ _ _)⟩
      ·rw [if_neg hcn] at hdr
       have HD := lhd hdr
       clear hdr
       go_wp2
       go_quiet (fail)
       go_wp2
       go_ret3
       rw [HS.out]
       exact ⟨_, rfl, HD.out, HB1.out.trans (below_drewN _ _ _)⟩
 ·have he1 : ((er : Int) != 0) = true := by simp; omega
  have HS := lhd (takeS_err m HT.out he)
  go_wp2
  go_ret3
  rw [HS.out]
  exact ⟨_, rfl, Rd.nil _ _, HB1.out⟩
theorem takeN_err (l : List UInt8) (n : Nat) (rest : List UInt8) (er : Nat) (h : takeN l = (n, rest, er)) (he : er ≠ 0) : n = 0 ∧ rest = [] := by
 cases l with
 | nil =>
   rw [takeN] at h
   injection h with h1 h2
   injection h2 with h2 _
   exact ⟨h1.symm, h2.symm⟩
 | cons k t =>
   rw [takeN] at h
   split at h
   ·injection h with h1 h2
    injection h2 with h2 _
    exact ⟨h1.symm, h2.symm⟩
   ·split at h
    ·injection h with h1 h2
     injection h2 with h2 _
     exact ⟨h1.symm, h2.symm⟩
    ·injection h with h1 h2
     injection h2 with h2 h3
     exact absurd h3.symm he
def CutI (B : Nat) (r : Nat × List UInt8 × Nat) (w : World) (e : Ending) (w' : World) : Prop :=
 ∃ vr, e = .returned (.tuple #[.int .i64 (zag r.1), vr, .int .i64 (r.2.2 : Int)]) ∧ Rd B w' vr r.2.1 ∧ Below w.heap.size w w'
theorem refInt_any (v : Value) (l : List UInt8) (B : Nat) (w : World) (hr : Rd B w v l) (hB : B ≤ w.heap.size) : Calls Tryz.prog 115 #[v] w (CutI B (takeN l) w) := by
 have hn := takeN_lt l
 have HR := lhd hr
 clear hr
 go_enter Tryz.func115, Tryz.ntmps115
 go_wp2_with fail
 refine (refTake_any v l B w HR.out hB).mono ?_
 rintro e w1 ⟨v1, rfl, hr1, hb1⟩
 generalize hT : takeN l = r at *
 obtain ⟨n, rest, er⟩ := r
 have hn2 : (n : Int) ≤ 18446744073709551615 := by have h : n < 18446744073709551616 := hn; omega
 have hr1' : Rd B w1 v1 rest := hr1
 have HR1 := lhd hr1'
 have HB1 := lhd hb1
 have HT := lhd hT
 clear hr1 hr1' hb1 hn hT
 by_cases he : er = 0
 ·subst he
  by_cases hodd : n % 2 = 1
  ·have ho : (((n : Int) % 2) == 1) = true := by simp; omega
   have hz : zag n = -((n : Int) / 2) - 1 := by unfold zag; rw [if_pos hodd]; omega
   have HZ := lhd hz
   clear hz
   go_wp2
   go_ret3
   exact ⟨v1, ret3_int HZ.out.symm, HR1.out, HB1.out⟩
  ·have ho : (((n : Int) % 2) == 1) = false := by simp; omega
   have hz : zag n = (n : Int) / 2 := by unfold zag; rw [if_neg hodd]; omega
   have HZ := lhd hz
   clear hz
   go_wp2
   go_ret3
   exact ⟨v1, ret3_int HZ.out.symm, HR1.out, HB1.out⟩
 ·have he1 : ((er : Int) != 0) = true := by simp; omega
  obtain ⟨h1, h2⟩ := takeN_err _ _ _ _ HT.out he
  subst h1 h2
  go_wp2
  go_ret3
  exact ⟨_, ret3_int (show (0 : Int) = zag 0 from rfl), Rd.nil _ _, HB1.out⟩
end Go.Proofs.YtgfobinklijkpaaGreatDoor
