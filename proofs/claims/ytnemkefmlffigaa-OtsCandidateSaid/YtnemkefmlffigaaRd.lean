/-
  The document's own layer 4: the message hash and Sign, for every key and every text of at most 90000 bytes.
-/
import Derived.Test.YtnemkefmlffigaaRc
import Derived.Test.YtnemkefmlffigaaRel3
namespace Go.Proofs.Ytnemkefmlffigaa
open Go.RowKit

set_option maxRecDepth 100000 in
set_option maxHeartbeats 1000000 in
theorem signed_any (I seed r text : List UInt8) (q : Nat) (z : Int) (rv tv : Value) (w : World) (hI : I.length = 16) (hs : seed.length = 32) (hq : q < 4294967296) (hr : r.length = 32) (hrv : Rd w.heap.size w rv r) (ht : Rd w.heap.size w tv text) (hl : text.length ≤ 90000) :
    Calls Try.prog 31 #[.agg (kcs I q seed z).toArray, rv, tv] w (Arr (bys (hmsg (pre20 I q) r text)) w) := by
  obtain ⟨i0, hi0, hz0, hz1, hz2⟩ := info_parts info5
  have HIN := Lib.hid hi0
  have H0 := Lib.hid hz0
  have H1 := Lib.hid hz1
  have H2 := Lib.hid hz2
  have HI := Lib.hid hI
  have HP := Lib.hid (pre20_length I q hI)
  have HRL := Lib.hid hr
  have HRV := Lib.hid hrv
  have HT := Lib.hid ht
  have H32 : Hid ((Try.prog.info? 67).map (·.size) = some (kcs I q seed z).length) := by show _ = _; rw [kcs_length I seed q _ hI hs]; exact s32
  have H24 : Hid ((Try.prog.info? 28).map (·.size) = some (bys (hmsg (pre20 I q) r text)).length) := by show _ = _; rw [bys_length, hmsg_length]; exact s24
  have HLZ : Hid (z32.length = (bys (hmsg (pre20 I q) r text)).length) := by show _ = _; rw [bys_length, hmsg_length, z32_length]
  have HH : Hid (hash (pre20 I q ++ [129, 129] ++ r ++ text) = hmsg (pre20 I q) r text) := by show _ = _; unfold hmsg; simp
  obtain ⟨d32, hu32, hd32⟩ := row32
  have HU := Lib.hid hu32
  have HD := Lib.hid hd32
  obtain ⟨Ar, cr, rfl, hcr, hmr⟩ := hrv.shape
  unfold maxLen at hmr
  rw [hr] at hcr HRV ⊢
  obtain ⟨At, ct, rfl, hct, hmt⟩ := ht.shape
  unfold maxLen at hmt
  have HTL := Lib.hid hl
  clear hI hs hi0 hz0 hz1 hz2 hu32 hd32 hr hrv ht
  go_enter Try.func31, Try.ntmps31
  go_wp2_with (refine wpList_box_blk rfl 67 _ rfl (kcs I q seed z) rfl ?_)
  intro v1 a1 a2 a3
  have A1 := Lib.hid a1
  have A2 := Lib.hid a2
  have A3 := Lib.hid a3
  clear a1 a2 a3
  go_wp2_with (refine wpList_alloc_blk rfl 28 rfl _ z24 ?_)
  intro v2 a1 a2 a3
  rw [A2.out] at a1 a2 a3 ⊢
  obtain ⟨g0, hg0⟩ : ∃ g, w.heap.size = g := ⟨_, rfl⟩
  obtain ⟨g1, hg1⟩ : ∃ g, g0 + 1 = g := ⟨_, rfl⟩
  have X1 : Hid (Blk v2 g0 (kcs I q seed z) 67) := by rw [← hg0]; exact A1.out.below a3 (by omega)
  have X2 : Hid (Blk v2 g1 z32 28) := by rw [← hg1, ← hg0]; exact a1
  have XB : Hid (Below w.heap.size w v2) := A3.out.trans (a3.mono (by omega))
  have hw0 : w.heap.size ≤ g0 := by omega
  have hg01 : g0 < g1 := by omega
  rw [hg0, hg1]
  clear a1 a2 a3 A1 A2 A3 hg0 hg1
  go_wp2_with (refine wpList_load_blkU rfl 67 _ rfl g0 rfl (kcs I q seed z) 67 X1.out d32 HU.out HD.out H32.out ?_)
  refine (head_any I seed q z _ HI.out hq).mono ?_
  rintro e w2 ⟨hv, rfl, hown, hb⟩
  obtain ⟨b, hbE⟩ : ∃ b, v2.heap.size = b := ⟨_, rfl⟩
  have g1b : g1 < b := by rw [← hbE]; exact X2.out.lt
  have Y2 : Hid (Blk w2 g1 z32 28) := X2.out.below hb X2.out.lt
  have YB : Hid (Below w.heap.size w w2) := XB.out.trans (hb.mono XB.out.size)
  have YO : Hid (Own 5 w2 b hv (pre20 I q)) := by rw [← hbE]; exact hown
  have hb2 : b ≤ w2.heap.size := by rw [← hbE]; exact hb.size
  have hwb : w.heap.size ≤ b := by omega
  clear hb hown X1 X2 XB hbE
  go_wp2_with (at_builtin; refine wpList_app rfl _ _ 24 rfl 5 i0 Try.underlying24 HIN.out H0.out H1.out H2.out b (w2.heap.size + 1) _ _ (pre20 I q) [129, 129] rfl (YO.out.alloc _) rfl ((Own.lit 5 w2 _ 2 [129, 129] rfl (by omega) (by simp [bys])).rd.more (by simp)) (by rw [HP.out]; simp) (by simp; omega) ?_)
  intro v3 w3 hown3 hb3'
  have hb3 : Below b w2 w3 := ((Below.refl b w2).alloc hb2 _).trans hb3'
  have Z2 : Hid (Blk w3 g1 z32 28) := Y2.out.below hb3 g1b
  have ZB : Hid (Below w.heap.size w w3) := YB.out.trans (hb3.mono hwb)
  have hb3s : b ≤ w3.heap.size := Nat.le_trans hb2 hb3.size
  have ZO : Hid (Own 5 w3 b v3 (pre20 I q ++ [129, 129])) := Lib.hid (by simpa using hown3)
  clear hown3 hb3 hb3' Y2 YB YO
  go_wp2_with (at_builtin; refine wpList_app rfl _ _ 24 rfl 5 i0 Try.underlying24 HIN.out H0.out H1.out H2.out b w.heap.size _ _ (pre20 I q ++ [129, 129]) r rfl ZO.out rfl (HRV.out.below ZB.out) (by rw [List.length_append, HP.out, HRL.out]; simp) hb3s ?_)
  intro v4 w4 hown4 hb4
  have U2 : Hid (Blk w4 g1 z32 28) := Z2.out.below hb4 g1b
  have UB : Hid (Below w.heap.size w w4) := ZB.out.trans (hb4.mono hwb)
  have UO : Hid (Own 5 w4 b v4 (pre20 I q ++ [129, 129] ++ r)) := Lib.hid (by simpa using hown4)
  have hb4s : b ≤ w4.heap.size := Nat.le_trans hb3s hb4.size
  clear hown4 hb4 Z2 ZB ZO
  go_wp2_with (at_builtin; refine wpList_app rfl _ _ 24 rfl 5 i0 Try.underlying24 HIN.out H0.out H1.out H2.out b w.heap.size _ _ (pre20 I q ++ [129, 129] ++ r) text rfl UO.out rfl (HT.out.below UB.out) (by have := HTL.out; rw [List.length_append, List.length_append, HP.out, HRL.out]; simp; omega) hb4s ?_)
  intro v5 w5 hown5 hb5
  have V2 : Hid (Blk w5 g1 z32 28) := U2.out.below hb5 g1b
  have VB : Hid (Below w.heap.size w w5) := UB.out.trans (hb5.mono hwb)
  have VO : Hid (Own 5 w5 b v5 (pre20 I q ++ [129, 129] ++ r ++ text)) := Lib.hid (by simpa using hown5)
  clear hown5 hb5 U2 UB UO
  go_wp2_with fail
  refine (refSum_any v5 _ _ VO.out.rd (by have := HTL.out; rw [List.length_append, List.length_append, List.length_append, HP.out, HRL.out]; simp; omega)).mono ?_
  rintro e w6 ⟨rfl, hb6⟩
  rw [HH.out]
  have W2 : Hid (Blk w6 g1 z32 28) := V2.out.below hb6 V2.out.lt
  have WB : Hid (Below w.heap.size w w6) := VB.out.trans (hb6.mono VB.out.size)
  clear hb6 V2 VB VO
  go_wp2_with (refine wpList_store_blk rfl 28 _ _ rfl g1 (bys (hmsg (pre20 I q) r text)) z32 28 rfl rfl W2.out H24.out HLZ.out (bys_one' _) ?_)
  refine bodyPost_ret (v := .agg (bys (hmsg (pre20 I q) r text)).toArray) ?_ rfl ?_
  · exact ret_blk rfl _ _ g1 28 _ rfl W2.out.setRow 32 5 tu24 H24.out
  · exact ⟨rfl, below_setRow' WB.out (by omega) _⟩


/-- append of bytes onto bytes that are owned: only the own row changes. -/
theorem wpList_app_grown {P : Program} {w : World} {ops : Array Oper} {rest : List Oper} {o : Oper} {a : Act} {Q : Exit → Act → World → Prop} (hgd : o.guard = none) (s x : Operand) (t : TypeId) (ho : o.op = .call { callee := .builtin .append, args := #[s, x], argTypes := #[t, t] })
    (e : TypeId) (i : TypeInfo) (ht : P.underlying t = some (.slice e)) (hi : P.info? e = some i) (hz : i.zero = some (.int .u8 0)) (hsize : i.size = 1) (hby : i.bytes = 1)
    (base B : Nat) (v v2 : Value) (l l2 : List UInt8) (hs : a.eval s = v) (hown : Own e w base v l) (hx : a.eval x = v2) (hr : Rd B w v2 l2) (h2 : 0 < l2.length)
    (hlen : l.length + l2.length ≤ 140737488355328) (hbase : base ≤ w.heap.size)
    (h : ∀ v' w', Own e w' base v' (l ++ l2) → w.grownBy w' v.ownBlock → wpList P ops Q rest (a.put o.dst v') w') : wpList P ops Q (o :: rest) a w := by
  obtain ⟨A, c, rfl, hc, hm, hn, hcell⟩ := hr
  obtain ⟨ad, rfl⟩ : ∃ ad, A = some ad := by
    cases A with
    | none => have := hn rfl; omega
    | some ad => exact ⟨ad, rfl⟩
  refine wpList_append_own w hgd s x t ho base e i (.int .u8 0) 1 1 ht hi hz hsize hby rfl (by decide) v l.length (bys l) hs hown ad l2.length c (bys l2) hx (by rw [bys_length, Nat.mul_one]) ?_ (bys_one l2) (by unfold maxLen; omega) (by omega) hbase ?_
  · intro j u hu
    obtain ⟨hj, rfl⟩ := bys_at l2 j u hu
    exact (hcell ad rfl).2 j hj
  · intro v' w' h1 h2 _
    refine h v' w' ?_ h2
    unfold Own
    rw [List.length_append, bys_append]
    exact h1
/-- Ints that are owned stay where a row of bytes grows: their types tell the rows apart. -/
theorem OwnI.other {w w' : World} {b b' : Nat} {v v' : Value} {D : List Nat} {l : List UInt8} (h : OwnI 3 w b v D) (h' : Own 5 w b' v' l) (hg : w.grownBy w' v'.ownBlock) : OwnI 3 w' b v D := by
  refine ⟨h.1, ?_⟩
  rcases h.2 with hn | ⟨g, cap, cur, rfl, hg0, hg1, r⟩
  · exact .inl hn
  · have hlt : g < w.heap.size := (Array.getElem?_eq_some_iff.1 hg1).1
    refine .inr ⟨g, cap, cur, rfl, hg0, ?_, r⟩
    rw [hg.block g hlt ?_]
    · exact hg1
    · intro he
      rcases h'.2 with ⟨rfl, _⟩ | ⟨g', cap', cur', rfl, _, hg1', _⟩
      · cases he
      · injection he with he
        have he2 : g = g' := he
        subst he2
        rw [hg1] at hg1'
        injection hg1' with hg1'
        injection hg1' with _ h3
        cases h3
def OwIN (D : List Nat) : Value → World → Prop := fun v w => OwnI 3 w 0 v D
theorem OwIN.keep {D : List Nat} {v : Value} {w w' : World} (h : OwIN D v w) (hb : Below w.heap.size w w') : OwIN D v w' := OwnI.below h hb (Nat.le_refl _)
def AlON (D : List Nat) : Value → World → Prop := fun v w => ∃ u, v = .tuple #[u, .int .i64 0] ∧ OwIN D u w
theorem AlON.keep {D : List Nat} {v : Value} {w w' : World} (h : AlON D v w) (hb : Below w.heap.size w w') : AlON D v w' := by
  obtain ⟨u, hv, h⟩ := h
  exact ⟨u, hv, h.keep hb⟩

/-- What the loop of the document's Sign keeps. -/
def RSgAt (w : World) (I seed : List UInt8) (q k g0 b : Nat) (D : List Nat) (dv v : Value) (l : List UInt8) (wr : World) : Prop :=
  Blk wr g0 (kcs I q seed (k : Int)) 67 ∧ OwnI 3 wr 0 dv D ∧ Own 5 wr b v l ∧ b ≤ wr.heap.size ∧ Below w.heap.size w wr
theorem RSgAt.below {w : World} {I seed : List UInt8} {q k g0 b : Nat} {D : List Nat} {dv v : Value} {l : List UInt8} {wr w' : World} (h : RSgAt w I seed q k g0 b D dv v l wr) (hb : Below wr.heap.size wr w') : RSgAt w I seed q k g0 b D dv v l w' := by
  obtain ⟨h1, h3, h4, h5, h6⟩ := h
  exact ⟨h1.below hb h1.lt, h3.below hb (Nat.le_refl _), h4.below hb (Nat.le_refl _), Nat.le_trans h5 hb.size, h6.trans (hb.mono h6.size)⟩

end Go.Proofs.Ytnemkefmlffigaa
