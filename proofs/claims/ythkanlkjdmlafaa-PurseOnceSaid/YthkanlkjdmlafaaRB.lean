/-
  The document's own layer 4: Four, head, many, last, Long, Type and a key as the document's, for every input.
  The document's own layer 4: a key as the document's, Long, Type and Secret, for every input.
  The document's own layer 4: Chain, for every key, every three ints and every hash.
  The document's own layer 4: the message hash and Sign, for every key and every text of at most 90000 bytes.
  The document's own layer 4: rows of hashes, the public hash of them, and Public. The document's own layer 4: Public, for every key. The law OtsPublic, walked: it answers true for every key.
-/
import Derived.Test.YthkanlkjdmlafaaDR
import Derived.Test.YthkanlkjdmlafaaCC
import Derived.Test.YthkanlkjdmlafaaRel3
namespace Go.Proofs.Ythkanlkjdmlafaa
open Go.RowKit


set_option maxHeartbeats 400000 in
theorem many_yes (k : Nat) (w : World) (hk : Wd k) : Calls Try.prog 62 #[.int .i64 (k : Int)] w (Drew (.int .i64 (mny k : Nat)) w) := by
  have HK := Lib.hid hk
  obtain ⟨_, _, hP, _⟩ := hk.le
  have hC := chk_le k
  obtain ⟨N, hN⟩ : ∃ N, onn k = N := ⟨_, rfl⟩
  obtain ⟨M, hM⟩ : ∃ M, chk k = M := ⟨_, rfl⟩
  obtain ⟨S, hS⟩ : ∃ S, mny k = S := ⟨_, rfl⟩
  have hNS : N + M = S := by rw [← hN, ← hM, ← hS]; rfl
  have HN := Lib.hid hN
  have HM := Lib.hid hM
  rw [hS]
  rw [hN] at hP
  rw [hM] at hC
  clear hk hN hM hS
  go_enter Try.func62, Try.ntmps62
  go_wp2_with fail
  refine (refOwn_yes k _ HK.out).mono ?_
  rintro e w1 ⟨rfl, rfl⟩
  rw [HN.out]
  go_wp2_with fail
  refine (refCheck_yes k _ HK.out).mono ?_
  rintro e w1 ⟨rfl, nd, rfl⟩
  rw [HM.out]
  go_wp2
  go_ret
  have e1 : (N : Int) + (M : Int) = (S : Int) := by omega
  exact ⟨by rw [← e1]; rfl, nd, rfl⟩
set_option maxHeartbeats 400000 in
theorem many_no (z : Int) (w : World) (hz : NoW z) : Calls Try.prog 62 #[.int .i64 z] w (Drew (.int .i64 0) w) := by
  have HZ := Lib.hid hz
  clear hz
  go_enter Try.func62, Try.ntmps62
  go_wp2_with fail
  refine (refOwn_no z _ HZ.out).mono ?_
  rintro e w1 ⟨rfl, rfl⟩
  go_wp2_with fail
  refine (refCheck_no z _ HZ.out).mono ?_
  rintro e w1 ⟨rfl, rfl⟩
  go_wp2
  go_ret
  exact ⟨rfl, 0, rfl⟩

end Go.Proofs.Ythkanlkjdmlafaa

namespace Go.Proofs.Ythkanlkjdmlafaa
open Go.RowKit

theorem list_as (l : List UInt8) (n : Nat) (h : l.length = n) : l = (List.range n).map fun i => l.getD i 0 := by
  subst h
  refine List.ext_getElem (by simp) (fun i h1 h2 => ?_)
  simp [h1]
theorem kcs_one (I seed : List UInt8) (q : Nat) (z : Int) : (kcs I q seed z).toArray.all (·.oneCell') = true := by
  rw [Array.all_eq_true_iff_forall_mem]
  intro v hv
  simp only [kcs, List.mem_toArray, List.mem_append, List.mem_cons, List.not_mem_nil, or_false] at hv
  rcases hv with h | h | h | h
  · exact bys_one _ _ h
  · subst h; rfl
  · exact bys_one _ _ h
  · subst h; rfl
theorem kcs_rangeS {w : World} {g : Nat} {I seed : List UInt8} {q : Nat} {z : Int} {t : TypeId} (h : Blk w g (kcs I q seed z) t) (hI : I.length = 16) : w.rangeAt g 17 (bys seed) := fun j v hv => by
  have hj : j < (bys seed).length := (List.getElem?_eq_some_iff.1 hv).1
  rw [h.cell]
  unfold kcs
  rw [List.getElem?_append_right (by rw [bys_length, hI]; omega), bys_length, hI, List.getElem?_cons, if_neg (by omega), List.getElem?_append_left (by omega), show 17 + j - 16 - 1 = j by omega]
  exact hv

theorem ret_blkU {P : Program} {fn : Func} {p : Tmp} {ty : TypeId} (h : fn.results = #[.cell p ty]) (tmps : Array Value) (w : World) (g : Nat) (t : TypeId) (cs : List Value)
    (hp : tmps.getD p undef = .pointer (some ⟨g, 0, none⟩)) (hb : Blk w g cs t) (d : TypeDesc) (hu : P.underlying ty = some d) (hd : d.isRow = true) (hi : (P.info? ty).map (·.size) = some cs.length) :
    (results fn tmps).run P w = .ok (.agg cs.toArray) w :=
  results_cell_row h tmps w g t cs.toArray (0, 0) d hp hb hu (by cases d <;> first | rfl | cases hd) (by simpa using hi)


set_option maxHeartbeats 400000 in
theorem refLong_yes (k : Nat) (w : World) (hk : Wd k) : Calls Try.prog 39 #[.int .i64 (k : Int)] w (Drew (.tuple #[.int .i64 (lng k : Nat), .int .i64 0]) w) := by
  have HK := Lib.hid hk
  have hm := mny_le k hk
  obtain ⟨S, hS⟩ : ∃ S, mny k = S := ⟨_, rfl⟩
  obtain ⟨L, hL⟩ : ∃ L, lng k = L := ⟨_, rfl⟩
  have hSL : 36 + 32 * S = L := by rw [← hS, ← hL]; unfold lng; omega
  have hS0 : 0 < S := by rw [← hS]; rcases hk with rfl | rfl | rfl | rfl <;> decide
  have HSE := Lib.hid hS
  have z0 : ((S : Int) == 0) = false := by simp; omega
  rw [hL]
  rw [hS] at hm
  clear hk hS hL
  go_enter Try.func39, Try.ntmps39
  go_wp2_with fail
  refine (many_yes k _ HK.out).mono ?_
  rintro e w1 ⟨rfl, nd, rfl⟩
  rw [HSE.out]
  go_wp2
  go_ret2
  have e1 : 36 + 32 * (S : Int) = (L : Int) := by omega
  exact ⟨by rw [← e1]; rfl, nd, rfl⟩
set_option maxHeartbeats 400000 in
theorem refLong_no (z : Int) (w : World) (hz : NoW z) : Calls Try.prog 39 #[.int .i64 z] w (Drew (.tuple #[.int .i64 0, .int .i64 1]) w) := by
  have HZ := Lib.hid hz
  clear hz
  go_enter Try.func39, Try.ntmps39
  go_wp2_with fail
  refine (many_no z _ HZ.out).mono ?_
  rintro e w1 ⟨rfl, nd, rfl⟩
  go_wp2
  go_ret2
  exact ⟨rfl, nd, rfl⟩
set_option maxHeartbeats 400000 in
theorem refType_yes (k : Nat) (w : World) (hk : Wd k) : Calls Try.prog 61 #[.int .i64 (k : Int)] w (Just (.tuple #[.int .u32 (typ k : Nat), .int .i64 0]) w) := by
  rcases hk with rfl | rfl | rfl | rfl
  all_goals
    go_enter Try.func61, Try.ntmps61
    go_wp2
    go_ret2
    exact ⟨rfl, rfl⟩
set_option maxHeartbeats 400000 in
theorem refType_no (z : Int) (w : World) (hz : NoW z) : Calls Try.prog 61 #[.int .i64 z] w (Just (.tuple #[.int .u32 0, .int .i64 1]) w) := by
  obtain ⟨h1, h2, h4, h8⟩ := hz
  go_enter Try.func61, Try.ntmps61
  go_wp2
  go_ret2
  exact ⟨rfl, rfl⟩




end Go.Proofs.Ythkanlkjdmlafaa

namespace Go.Proofs.Ythkanlkjdmlafaa
open Go.RowKit

end Go.Proofs.Ythkanlkjdmlafaa

namespace Go.Proofs.Ythkanlkjdmlafaa
open Go.RowKit



/-- append of bytes onto bytes that are owned: only the own row changes. -/
theorem wpList_app_grown {P : Program} {w : World} {ops : Array Oper} {rest : List Oper} {o : Oper} {a : Act} {Q : Exit → Act → World → Prop} (hgd : o.guard = none) (s x : Operand) (t : TypeId) (ho : o.op = .call { callee := .builtin .append, args := #[s, x], argTypes := #[t, t] })
    (e : TypeId) (i : TypeInfo) (ht : P.underlying t = some (.slice e)) (hi : P.info? e = some i) (hz : i.zero = some (.int .u8 0)) (hsize : i.size = 1) (hby : i.bytes = 1)
    (base B : Nat) (v v2 : Value) (l l2 : List UInt8) (hs : a.eval s = v) (hown : Own e w base v l) (hx : a.eval x = v2) (hr : Rd B w v2 l2) (h2 : 0 < l2.length)
    (hlen : l.length + l2.length ≤ 140737488355328) (hbase : base ≤ w.heap.size)
    (h : ∀ v' w', Own e w' base v' (l ++ l2) → w.grownBy w' v.ownBlock → wpList P ops Q rest (a.put o.dst v') w') : wpList P ops Q (o :: rest) a w := by
  obtain ⟨A, c, rfl, hc, hm, hn, hcell⟩ := hr
  obtain ⟨ad, rfl⟩ : ∃ ad, A = some ad := by
    cases A with
    | none => have := hn rfl; omega
    | some ad => exact ⟨ad, rfl⟩
  refine wpList_append_own w hgd s x t ho base e i (.int .u8 0) 1 1 ht hi hz hsize hby rfl (by decide) v l.length (bys l) hs hown ad l2.length c (bys l2) hx (by rw [bys_length, Nat.mul_one]) ?_ (bys_one l2) (by unfold maxLen; omega) (by omega) hbase ?_
  · intro j u hu
    obtain ⟨hj, rfl⟩ := bys_at l2 j u hu
    exact (hcell ad rfl).2 j hj
  · intro v' w' h1 h2 _
    refine h v' w' ?_ h2
    unfold Own
    rw [List.length_append, bys_append]
    exact h1
/-- Ints that are owned stay where a row of bytes grows: their types tell the rows apart. -/
theorem OwnI.other {w w' : World} {b b' : Nat} {v v' : Value} {D : List Nat} {l : List UInt8} (h : OwnI 3 w b v D) (h' : Own 5 w b' v' l) (hg : w.grownBy w' v'.ownBlock) : OwnI 3 w' b v D := by
  refine ⟨h.1, ?_⟩
  rcases h.2 with hn | ⟨g, cap, cur, rfl, hg0, hg1, r⟩
  · exact .inl hn
  · have hlt : g < w.heap.size := (Array.getElem?_eq_some_iff.1 hg1).1
    refine .inr ⟨g, cap, cur, rfl, hg0, ?_, r⟩
    rw [hg.block g hlt ?_]
    · exact hg1
    · intro he
      rcases h'.2 with ⟨rfl, _⟩ | ⟨g', cap', cur', rfl, _, hg1', _⟩
      · cases he
      · injection he with he
        have he2 : g = g' := he
        subst he2
        rw [hg1] at hg1'
        injection hg1' with hg1'
        injection hg1' with _ h3
        cases h3
def OwIN (D : List Nat) : Value → World → Prop := fun v w => OwnI 3 w 0 v D
theorem OwIN.keep {D : List Nat} {v : Value} {w w' : World} (h : OwIN D v w) (hb : Below w.heap.size w w') : OwIN D v w' := OwnI.below h hb (Nat.le_refl _)
def AlON (D : List Nat) : Value → World → Prop := fun v w => ∃ u, v = .tuple #[u, .int .i64 0] ∧ OwIN D u w
theorem AlON.keep {D : List Nat} {v : Value} {w w' : World} (h : AlON D v w) (hb : Below w.heap.size w w') : AlON D v w' := by
  obtain ⟨u, hv, h⟩ := h
  exact ⟨u, hv, h.keep hb⟩

end Go.Proofs.Ythkanlkjdmlafaa

namespace Go.Proofs.Ythkanlkjdmlafaa
open Go.RowKit

/-- The call owns a slice of n hashes, from block 'base' on; l: their bytes, one behind the other. -/
def OwH (w : World) (base : Nat) (v : Value) (n : Nat) (l : List UInt8) : Prop := w.ownsRow base 23 32 v n (bys l)
theorem OwH.below {w w' : World} {base B n : Nat} {v : Value} {l : List UInt8} (h : OwH w base v n l) (hb : Below B w w') (hB : w.heap.size ≤ B) : OwH w' base v n l := by
  refine ⟨h.1, ?_⟩
  rcases h.2 with hn | ⟨g, cap, cur, rfl, hg0, hg, r⟩
  · exact .inl hn
  · have hlt : g < w.heap.size := (Array.getElem?_eq_some_iff.1 hg).1
    exact .inr ⟨g, cap, cur, rfl, hg0, by rw [hb.block g (by omega)]; exact hg, r⟩
theorem OwH.base {w : World} {base base' n : Nat} {v : Value} {l : List UInt8} (h : OwH w base v n l) (hb : base' ≤ base) : OwH w base' v n l := by
  refine ⟨h.1, ?_⟩
  rcases h.2 with hn | ⟨g, cap, cur, rfl, hg0, r⟩
  · exact .inl hn
  · exact .inr ⟨g, cap, cur, rfl, by omega, r⟩
theorem OwH.len {w : World} {base n : Nat} {v : Value} {l : List UInt8} (h : OwH w base v n l) : l.length = 32 * n := by
  have := h.1; rw [bys_length] at this; omega
/-- Hashes that are owned stay where a row of bytes grows: their types tell the rows apart. -/
theorem OwH.other {w w' : World} {b b' n : Nat} {v v' : Value} {D l : List UInt8} (h : OwH w b v n D) (h' : Own 5 w b' v' l) (hg : w.grownBy w' v'.ownBlock) : OwH w' b v n D := by
  refine ⟨h.1, ?_⟩
  rcases h.2 with hn | ⟨g, cap, cur, rfl, hg0, hg1, r⟩
  · exact .inl hn
  · have hlt : g < w.heap.size := (Array.getElem?_eq_some_iff.1 hg1).1
    refine .inr ⟨g, cap, cur, rfl, hg0, ?_, r⟩
    rw [hg.block g hlt ?_]
    · exact hg1
    · intro he
      rcases h'.2 with ⟨rfl, _⟩ | ⟨g', cap', cur', rfl, _, hg1', _⟩
      · cases he
      · injection he with he
        have he2 : g = g' := he
        subst he2
        rw [hg1] at hg1'
        injection hg1' with hg1'
        injection hg1' with _ h3
        cases h3
theorem OwH.shape {w : World} {base n : Nat} {v : Value} {l : List UInt8} (h : OwH w base v n l) (hn : 0 < n) : ∃ g cap, v = .slice (some ⟨g, 0, none⟩) n cap ∧ base ≤ g ∧ g < w.heap.size ∧ n ≤ cap ∧ cap ≤ maxLen := by
  rcases h.2 with ⟨_, h0⟩ | ⟨g, cap, cur, rfl, hg0, hg, h1, h2, _⟩
  · omega
  · exact ⟨g, cap, rfl, hg0, (Array.getElem?_eq_some_iff.1 hg).1, h1, h2⟩
/-- The bytes of hash i. -/
def hRow (l : List UInt8) (i : Nat) : List UInt8 := (l.drop (32 * i)).take 32
theorem hRow_length (l : List UInt8) (n i : Nat) (hl : l.length = 32 * n) (hi : i < n) : (hRow l i).length = 32 := by unfold hRow; rw [List.length_take, List.length_drop]; omega
theorem OwH.range {w : World} {base n g cap : Nat} {l : List UInt8} (h : OwH w base (.slice (some ⟨g, 0, none⟩) n cap) n l) (i : Nat) : w.rangeAt g (32 * i) (bys (hRow l i)) := by
  intro j u hu
  have hc := World.ownsRow.cells (g := g) h rfl (32 * i + j) u ?_
  · have hadd : (⟨g, 0, none⟩ : Addr).add (32 * i + j) = ⟨g, 32 * i + j, none⟩ := by unfold Addr.add; split <;> simp_all
    rw [hadd] at hc
    exact hc
  · unfold hRow bys at hu
    rw [List.map_take, List.map_drop, List.getElem?_take] at hu
    split at hu
    · rw [List.getElem?_drop] at hu; exact hu
    · cases hu
theorem take_hRow (l : List UInt8) (i : Nat) : l.take (32 * (i + 1)) = l.take (32 * i) ++ hRow l i := by
  unfold hRow
  rw [show 32 * (i + 1) = 32 * i + 32 by omega, List.take_add]

/-- What the loop of the document's public keeps. -/
def RPuAt (w : World) (b n : Nat) (v hv : Value) (l D : List UInt8) (wr : World) : Prop :=
  OwH wr 0 hv n D ∧ Own 5 wr b v l ∧ b ≤ wr.heap.size ∧ Below w.heap.size w wr
theorem RPuAt.below {w : World} {b n : Nat} {v hv : Value} {l D : List UInt8} {wr w' : World} (h : RPuAt w b n v hv l D wr) (hb : Below wr.heap.size wr w') : RPuAt w b n v hv l D w' := by
  obtain ⟨h1, h4, h5, h6⟩ := h
  exact ⟨h1.below hb (Nat.le_refl _), h4.below hb (Nat.le_refl _), Nat.le_trans h5 hb.size, h6.trans (hb.mono h6.size)⟩

end Go.Proofs.Ythkanlkjdmlafaa

namespace Go.Proofs.Ythkanlkjdmlafaa
open Go.RowKit

theorem b24 : (Try.prog.info? 23).map (·.bytes) = some 32 := by kernel_rfl
theorem info24 : ∃ i, Try.prog.info? 23 = some i ∧ i.zero = some (.agg z32.toArray) ∧ i.size = 32 ∧ i.bytes = 32 := by
  have h1 := z24
  have h2 := s24
  have h3 := b24
  cases h : Try.prog.info? 23 with
  | none => rw [h] at h1; cases h1
  | some i =>
    rw [h] at h1 h2 h3
    exact ⟨i, rfl, by simpa using h1, by simpa using h2, by simpa using h3⟩
theorem fill_h0 (f : Nat → UInt8) : Instr.fill (fun i => some (i * 32, 32)) ((Array.range (1 * 32)).map (fun j => (Value.agg z32.toArray).cells[j % (Value.agg z32.toArray).cells.size]!)) [(0, .agg (bys ((List.range 32).map f)).toArray)] = some (bys ((List.range 32).map f)).toArray := by kernel_rfl
end Go.Proofs.Ythkanlkjdmlafaa

namespace Go.Proofs.Ythkanlkjdmlafaa
open Go.RowKit


end Go.Proofs.Ythkanlkjdmlafaa
