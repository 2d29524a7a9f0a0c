/-
  The law ShaPieces: bytes that are written in pieces have, at each step, the sum that they have whole.
-/
import Derived.Test.YtochamncdplaiaaOb3
import Derived.Test.YtochamncdplaiaaB6
namespace Go.Proofs.Ytochamncdplaiaa
open Go.RowKit

/-- A slice of byte slices reads as these rows. -/
def RdL (B : Nat) (w : World) (A : Option Addr) (c : Nat) (ls : List (List UInt8)) : Prop :=
  ls.length ≤ c ∧ c ≤ maxLen ∧ (A = none → c = 0) ∧ ∀ a, A = some a → ∀ r (h : r < ls.length), a.block < B ∧ ∃ vr, w.cell? (a.add r) = some vr ∧ Rd B w vr ls[r]

theorem Own.made0 (e : TypeId) (w : World) : Own e (w.alloc (.cells #[] e)) w.heap.size (.slice (some ⟨w.heap.size, 0, none⟩) 0 0) [] :=
  World.ownsRow_made w #[] 0 (Nat.le_refl _) (Nat.zero_le _) rfl
theorem Obj.below {w w' : World} {g B : Nat} {bs : List UInt8} (h : Obj w g bs) (hb : Below B w w') (hg : g < B) : Obj w' g bs := by
  obtain ⟨st, left, h1, h2⟩ := h
  exact ⟨st, left, h1.below hb hg, h2⟩
theorem apart_of {g B : Nat} {w : World} {v : Value} {l : List UInt8} (h : Rd B w v l) (hB : B ≤ g) : Apart g v := fun a n c hv hn => by
  obtain ⟨A, c', rfl, _, _, _, hr⟩ := h
  injection hv with e1 e2 e3
  subst e1
  have := (hr a rfl).1 (by omega)
  omega

/-- A guarded operation that is wanted. -/
theorem wpList_wanted {P : Program} {w : World} {ops : Array Oper} {rest : List Oper} {o : Oper} {a : Act} {Q : Exit → Act → World → Prop} (hw : Region.wanted o (yielded ops a.tmps) = true)
    (h : ∀ K : Act → World → Prop, (∀ a w, wpList P ops Q rest a w → K a w) → o.wp P a w K Q) : wpList P ops Q (o :: rest) a w :=
  wpList_step fun K hK => by simp only [hw, if_true]; exact h K hK
theorem wpList_load_blkG {P : Program} {w : World} {ops : Array Oper} {rest : List Oper} {o : Oper} {a : Act} {Q : Exit → Act → World → Prop} (hw : Region.wanted o (yielded ops a.tmps) = true) (t : TypeId) (x : Operand) (ho : o.op = .load t x) (g : Nat) (hx : a.eval x = .pointer (some ⟨g, 0, none⟩)) (cs : List Value) (u : TypeId) (hb : Blk w g cs u)
    (n : Nat) (e : TypeId) (hu : P.underlying t = some (.array n e)) (hi : (P.info? t).map (·.size) = some cs.length)
    (h : wpList P ops Q rest (a.put o.dst (.agg cs.toArray)) w) : wpList P ops Q (o :: rest) a w :=
  wpList_wanted hw fun K hK => by
    unfold Oper.wp
    rw [run_load_blk t x ho g hx cs u hb n e hu hi]
    exact hK _ _ h

theorem wpList_store_eq {P : Program} {w : World} {ops : Array Oper} {rest : List Oper} {o : Oper} {a : Act} {Q : Exit → Act → World → Prop} (hg : o.guard = none) (t : TypeId) (x y : Operand) (ho : o.op = .store t x y) (g : Nat) (cs old : List Value) (u : TypeId) (hx : a.eval x = .pointer (some ⟨g, 0, none⟩)) (hy : a.eval y = .agg cs.toArray)
    (hb : Blk w g old u) (hi : (P.info? t).map (·.size) = some cs.length) (hl : old.length = cs.length) (h1 : cs.toArray.all (·.oneCell') = true)
    (h : ∀ w1, Hid (w1 = w.setRow g cs.toArray) → wpList P ops Q rest (a.put o.dst undef) w1) : wpList P ops Q (o :: rest) a w :=
  wpList_store_blk hg t x y ho g cs old u hx hy hb hi hl h1 (h _ rfl)

/-- append of one byte onto bytes that are owned: nothing but their own block changes. -/
theorem wpList_app_grown {P : Program} {w : World} {ops : Array Oper} {rest : List Oper} {o : Oper} {a : Act} {Q : Exit → Act → World → Prop} (hgd : o.guard = none) (s x : Operand) (t : TypeId) (ho : o.op = .call { callee := .builtin .append, args := #[s, x], argTypes := #[t, t] })
    (e : TypeId) (i : TypeInfo) (ht : P.underlying t = some (.slice e)) (hi : P.info? e = some i) (hz : i.zero = some (.int .u8 0)) (hsize : i.size = 1) (hby : i.bytes = 1)
    (base B : Nat) (v v2 : Value) (l l2 : List UInt8) (hs : a.eval s = v) (hown : Own e w base v l) (hx : a.eval x = v2) (hr : Rd B w v2 l2) (h2 : 0 < l2.length)
    (hlen : l.length + l2.length ≤ 140737488355328) (hbase : base ≤ w.heap.size)
    (h : ∀ v' w', Own e w' base v' (l ++ l2) → w.grownBy w' v.ownBlock → wpList P ops Q rest (a.put o.dst v') w') : wpList P ops Q (o :: rest) a w := by
  obtain ⟨A, c, rfl, hc, hm, hn, hcell⟩ := hr
  obtain ⟨ad, rfl⟩ : ∃ ad, A = some ad := by
    cases A with
    | none => have := hn rfl; omega
    | some ad => exact ⟨ad, rfl⟩
  refine wpList_append_own w hgd s x t ho base e i (.int .u8 0) 1 1 ht hi hz hsize hby rfl (by decide) v l.length (bys l) hs hown ad l2.length c (bys l2) hx (by rw [bys_length, Nat.mul_one]) ?_ (bys_one l2) (by unfold maxLen; omega) (by omega) hbase ?_
  · intro j u hu
    obtain ⟨hj, rfl⟩ := bys_at l2 j u hu
    exact (hcell ad rfl).2 j hj
  · intro v' w' h1 h2 _
    refine h v' w' ?_ h2
    unfold Own
    rw [List.length_append, bys_append]
    exact h1

/-- What the law's loop keeps. -/
def Keeps (w : World) (g b2 : Nat) (v : Value) (bs : List UInt8) (wr : World) : Prop := Obj wr g bs ∧ Own 5 wr b2 v bs ∧ Below w.heap.size w wr ∧ b2 ≤ wr.heap.size

set_option maxHeartbeats 2000000 in
set_option maxRecDepth 100000 in
theorem pieces_law (A : Option Addr) (c : Nat) (ls : List (List UInt8)) (w : World) (h : RdL w.heap.size w A c ls) (hsm : ∀ l ∈ ls, l.length ≤ 140737488355328) : Calls Try.prog 6 #[.slice A ls.length c] w fun e w' => e = .returned (.bool true) ∧ Below w.heap.size w w' := by
  obtain ⟨i0, hi, hz0, hz1, hz2⟩ := info_parts info5
  have HI := Lib.hid hi
  have H0 := Lib.hid hz0
  have H1 := Lib.hid hz1
  have H2 := Lib.hid hz2
  have HL := Lib.hid h
  obtain ⟨hc, hm, hn, hrow⟩ := h
  unfold maxLen at hm
  have HN := Lib.hid hn
  have HROW := Lib.hid hrow
  have HSM := Lib.hid hsm
  clear hsm
  clear hi hz0 hz1 hz2 hn hrow
  go_enter Try.func6, Try.ntmps6
  go_wp2_with fail
  refine (new_any w).mono ?_
  rintro e w1 ⟨rfl, hsz1, hob1, hb1⟩
  obtain ⟨g, hg⟩ : ∃ g, w1.heap.size - 1 = g := ⟨_, rfl⟩
  rw [hg] at hob1 ⊢
  have hgl : w.heap.size ≤ g := by omega
  obtain ⟨b2, hb2⟩ : ∃ b, w1.heap.size = b := ⟨_, rfl⟩
  have hgb : g < b2 := by omega
  have K1 : Hid (Keeps w g b2 (.slice (some ⟨b2, 0, none⟩) 0 0) [] (w1.alloc (.cells #[] 5))) := by
    refine ⟨hob1.below ((Below.refl w1.heap.size w1).alloc (Nat.le_refl _) _) (by omega), ?_, hb1.alloc hb1.size _, by simp; omega⟩
    have h := Own.made0 5 w1
    rw [hb2] at h
    exact h
  clear hob1 hb1 hsz1 hg
  go_wp2
  generalize w1.alloc (.cells #[] 5) = w2 at K1 ⊢
  clear hb2
  go_loopw [4, 5] (fun v x wr => ∃ (i : Nat) (bs : List UInt8), i ≤ ls.length ∧ i ≤ 60 ∧ x = .int .i64 i ∧ bs.length ≤ 2000 ∧ Hid (Keeps w g b2 v bs wr)) (fun _ x _ => 60 - (intOf x).toNat)
  case atStart => exact ⟨0, [], by omega, by omega, rfl, by simp, K1⟩
  case round =>
    clear K1
    obtain ⟨i, bs, hi, hi60, rfl, hbs, K⟩ := hrel
    obtain ⟨A4, c4, hv4, hc4, hm4⟩ := K.out.2.1.rd.shape
    subst hv4
    obtain ⟨nb, hnb⟩ : ∃ n, bs.length = n := ⟨_, rfl⟩
    rw [hnb] at K hc4 hbs ⊢
    unfold maxLen at hm4
    have HNB := Lib.hid hnb
    have hsz := K.out.2.2.2
    clear hnb
    by_cases hi2 : i < ls.length
    · by_cases h60 : i = 60
      · subst h60
        rw [show ((60 : Nat) : Int) = 60 from rfl]
        have z60 : (60 : Int) < (ls.length : Int) := by omega
        go_wp2_with (go_at_call 9; refine (alive_any _).mono ?_; rintro e w3 ⟨rfl, hb3⟩; have B3 := Lib.hid hb3; clear hb3)
        go_ret
        exact ⟨rfl, K.out.2.2.1.trans (B3.out.mono K.out.2.2.1.size)⟩
      · obtain ⟨a, rfl⟩ : ∃ a, A = some a := by
          cases A with
          | none => have := HN.out rfl; omega
          | some a => exact ⟨a, rfl⟩
        obtain ⟨hab, vr, hcv, hrd⟩ := HROW.out a rfl i hi2
        obtain ⟨l, hl⟩ : ∃ l, ls[i] = l := ⟨_, rfl⟩
        have hl47 : l.length ≤ 140737488355328 := by rw [← hl]; exact HSM.out _ (List.getElem_mem hi2)
        rw [hl] at hrd
        have HRD := Lib.hid hrd
        obtain ⟨A5, c5, hv5, hc5, hm5⟩ := hrd.shape
        subst hv5
        unfold maxLen at hm5
        have cv : wr.cell? (a.add i) = some (.slice A5 l.length c5) := by rw [K.out.2.2.1.cell (by rw [addr_block]; exact hab)]; exact hcv
        have zi : (i : Int) < (ls.length : Int) := by omega
        have z60 : ((i : Int) == 60) = false := by simp; omega
        have HCV := Lib.hid cv
        have hi59 : i < 60 := by omega
        clear hcv hl hrd h60
        by_cases hbig : 2000 < nb + l.length
        · have zb : (2000 : Int) < (nb : Int) + (l.length : Int) := by omega
          go_wp2_with (go_at_call 9; refine (alive_any _).mono ?_; rintro e w3 ⟨rfl, hb3⟩; have B3 := Lib.hid hb3; clear hb3)
          go_ret
          exact ⟨rfl, K.out.2.2.1.trans (B3.out.mono K.out.2.2.1.size)⟩
        · have zb : decide ((2000 : Int) < (nb : Int) + (l.length : Int)) = false := by simp; omega
          go_wp2_with fail
          clear cv zb z60
          have hkb := K.out.2.2.1
          refine (write_any g bs _ l wr K.out.1 ((HRD.out.below hkb).more hkb.size) (apart_of HRD.out hgl) (by have := HNB.out; omega)).mono ?_
          rintro e w3 ⟨rfl, hob3, hbut3⟩
          have O3 : Hid (Own 5 w3 b2 (.slice A4 nb c4) bs) := K.out.2.1.but hbut3 hgb
          have B3 : Hid (Below w.heap.size w w3) := hkb.trans (hbut3.below hgl hkb.size)
          have hs3 : b2 ≤ w3.heap.size := Nat.le_trans hsz hbut3.size
          have OB3 := Lib.hid hob3
          have cv : w3.cell? (a.add i) = some (.slice A5 l.length c5) := by rw [hbut3.cell (by rw [addr_block]; exact Nat.lt_of_lt_of_le hab hkb.size) (by rw [addr_block]; omega)]; exact HCV.out
          clear hob3 hbut3 hkb K
          go_wp2_with (at_builtin; refine wpList_app rfl _ _ 22 rfl 5 i0 Try.underlying22 HI.out H0.out H1.out H2.out b2 w.heap.size _ _ bs l rfl O3.out rfl (HRD.out.below B3.out) (by have := HNB.out; omega) hs3 ?_)
          intro v4 w4 hown4 hb4
          have O4 := Lib.hid hown4
          have hlen4 : (bs ++ l).length = nb + l.length := by rw [List.length_append, HNB.out]
          have HL4 := Lib.hid hlen4
          have OB4 : Hid (Obj w4 g (bs ++ l)) := OB3.out.below hb4 hgb
          have B4 : Hid (Below w.heap.size w w4) := B3.out.trans (hb4.mono (by omega))
          have hs4 := Nat.le_trans hs3 hb4.size
          clear hown4 hb4 cv O3 B3 OB3 hlen4
          obtain ⟨A6, c6, hv6, hc6, hm6⟩ := O4.out.rd.shape
          rw [HL4.out] at hv6 hc6
          subst hv6
          unfold maxLen at hm6
          go_wp2_with (go_at_call 22; refine (long_any g (bs ++ l) _ OB4.out).mono ?_; rintro e w' ⟨rfl, rfl⟩; rw [HL4.out])
          go_roundw
          case rel => exact ⟨i + 1, bs ++ l, by omega, by omega, by go_num, by have := HL4.out; omega, OB4.out, O4.out, B4.out, hs4⟩
          case measure => simp [intOf]; omega
    · have zi : ¬ (i : Int) < (ls.length : Int) := by omega
      go_wp2_with fail
      have hbl : bs.length ≤ 1000000 := by have := HNB.out; omega
      refine (sumS_any g bs wr K.out.1 hbl).mono ?_
      rintro e w3 ⟨rfl, hb3⟩
      have K3 : Hid (Keeps w g b2 (.slice A4 nb c4) bs w3) := ⟨K.out.1.below hb3 K.out.1.lt, K.out.2.1.below hb3 (Nat.le_refl _), K.out.2.2.1.trans (hb3.mono K.out.2.2.1.size), Nat.le_trans hsz hb3.size⟩
      clear hb3 K
      go_wp2_with fail
      refine (sumS_any g bs w3 K3.out.1 hbl).mono ?_
      rintro e w4 ⟨rfl, hb4⟩
      have K4 : Hid (Keeps w g b2 (.slice A4 nb c4) bs w4) := ⟨K3.out.1.below hb4 K3.out.1.lt, K3.out.2.1.below hb4 (Nat.le_refl _), K3.out.2.2.1.trans (hb4.mono K3.out.2.2.1.size), Nat.le_trans K3.out.2.2.2 hb4.size⟩
      clear hb4 K3
      have H24 : Hid ((Try.prog.info? 24).map (·.size) = some (bys (hash bs)).length) := by show _ = _; rw [bys_length, hash_length]; exact s24
      have HLZ : Hid (z32.length = (bys (hash bs)).length) := by show _ = _; rw [bys_length, hash_length, z32_length]
      go_wp2_with (refine wpList_alloc_blk rfl 24 rfl _ z24 ?_)
      intro w5 a1 a2 a3
      have A5' := Lib.hid a1
      have A5s := Lib.hid a2
      have A5b := Lib.hid a3
      obtain ⟨g6, hg6⟩ : ∃ x, w4.heap.size = x := ⟨_, rfl⟩
      clear a1 a2 a3
      go_wp2_with (refine wpList_alloc_blk rfl 24 rfl _ z24 ?_)
      intro w6 a1 a2 a3
      rw [A5s.out, hg6] at a1 a2 a3
      rw [hg6] at A5' A5b
      rw [A5s.out, hg6]
      have hg6l : b2 ≤ g6 := by rw [← hg6]; exact K4.out.2.2.2
      have HOWN6 : Hid (∀ k, (Value.slice A4 nb c4).ownBlock = some k → b2 ≤ k ∧ k < g6) := by rw [← hg6]; exact World.ownsRow.lt K4.out.2.1
      have P6 : Hid (Blk w6 g6 z32 24) := A5'.out.below a3 (by omega)
      have P7 : Hid (Blk w6 (g6 + 1) z32 24) := a1
      have B6 : Hid (Below g6 w4 w6) := A5b.out.trans (a3.mono (by omega))
      clear a1 a2 a3 A5' A5s A5b
      have P7' : Hid (Blk (w6.setRow g6 (bys (hash bs)).toArray) (g6 + 1) z32 24) := P7.out.setRowOther (by omega)
      go_wp2_with (first | (refine wpList_store_blk rfl 24 _ _ rfl g6 (bys (hash bs)) z32 24 rfl rfl P6.out H24.out HLZ.out (bys_one' _) ?_) | (refine wpList_store_blk rfl 24 _ _ rfl (g6 + 1) (bys (hash bs)) z32 24 rfl rfl P7'.out H24.out HLZ.out (bys_one' _) ?_))
      obtain ⟨w7, hw7⟩ : ∃ x, (w6.setRow g6 (bys (hash bs)).toArray).setRow (g6 + 1) (bys (hash bs)).toArray = x := ⟨_, rfl⟩
      have hsz7 : w7.heap.size = w6.heap.size := by rw [← hw7]; simp
      have B7 : Hid (Below g6 w4 w7) := by rw [← hw7]; exact below_setRow' (below_setRow' B6.out (Nat.le_refl _) _) (by omega) _
      have Q6 : Hid (Blk w7 g6 (bys (hash bs)) 24) := by rw [← hw7]; exact (Blk.setRow (cs' := bys (hash bs)) P6.out).setRowOther (by omega)
      have Q7 : Hid (Blk w7 (g6 + 1) (bys (hash bs)) 24) := by rw [← hw7]; exact P7'.out.setRow
      rw [hw7, ← hsz7]
      clear hw7 P6 P7 P7' B6 hsz7
      have K7 : Hid (Keeps w g b2 (.slice A4 nb c4) bs w7) := ⟨K4.out.1.below B7.out (by omega), K4.out.2.1.below B7.out (by omega), K4.out.2.2.1.trans (B7.out.mono (by omega)), Nat.le_trans K4.out.2.2.2 B7.out.size⟩
      clear B7 K4 hg6
      have hal : Below w7.heap.size w7 (w7.alloc (.cells #[.int .u8 7] 5)) := (Below.refl _ _).alloc (Nat.le_refl _) _
      have hg7 := K7.out.1.lt
      refine (write_any g bs _ [7] (w7.alloc (.cells #[.int .u8 7] 5)) (K7.out.1.below hal hg7) ((Rd.one 5 w7 7).more (by simp)) (fun a n c hv _ => by injection hv with e1 e2 e3; injection e1 with e1; subst e1; show w7.heap.size ≠ g; omega) (by have := HNB.out; simp; omega)).mono ?_
      rintro e w8 ⟨rfl, hob8, hbut8⟩
      have hbut := (But.of (g := g) hal (Nat.le_refl _)).trans hbut8
      have O8 : Hid (Own 5 w8 b2 (.slice A4 nb c4) bs) := K7.out.2.1.but hbut hgb
      have B8 : Hid (Below w.heap.size w w8) := K7.out.2.2.1.trans (hbut.below hgl K7.out.2.2.1.size)
      have Q68 : Hid (Blk w8 g6 (bys (hash bs)) 24) := hbut.blk Q6.out (by omega)
      have Q78 : Hid (Blk w8 (g6 + 1) (bys (hash bs)) 24) := hbut.blk Q7.out (by omega)
      have OB8 := Lib.hid hob8
      have hs8 : b2 ≤ w8.heap.size := Nat.le_trans K7.out.2.2.2 hbut.size
      clear hob8 hbut8 hbut hal Q6 Q7 K7 hg7
      go_wp2_with fail
      refine (sum_any _ bs w8 O8.out.rd).mono ?_
      rintro e w9 ⟨rfl, hb9⟩
      have OB9 : Hid (Obj w9 g (bs ++ [7])) := OB8.out.below hb9 OB8.out.lt
      have O9 : Hid (Own 5 w9 b2 (.slice A4 nb c4) bs) := O8.out.below hb9 (Nat.le_refl _)
      have B9 : Hid (Below w.heap.size w w9) := B8.out.trans (hb9.mono B8.out.size)
      have Q69 : Hid (Blk w9 g6 (bys (hash bs)) 24) := Q68.out.below hb9 Q68.out.lt
      have Q79 : Hid (Blk w9 (g6 + 1) (bys (hash bs)) 24) := Q78.out.below hb9 Q78.out.lt
      have hs9 := Nat.le_trans hs8 hb9.size
      clear hb9 OB8 O8 B8 Q68 Q78 hs8
      go_wp2_with (refine wpList_alloc_blk rfl 24 rfl _ z24 ?_)
      intro w10 a1 a2 a3
      obtain ⟨g8, hg8⟩ : ∃ x, w9.heap.size = x := ⟨_, rfl⟩
      have hg78 : g6 + 1 < g8 := by rw [← hg8]; exact Q79.out.lt
      rw [hg8] at a1 a3 ⊢
      have hgg8 : g < g8 := by rw [← hg8]; exact OB9.out.lt
      have Q810 := Lib.hid a1
      have hs10 : g8 < w10.heap.size := by rw [a2, hg8]; omega
      have hb11 : Below g8 w9 (w10.setRow g8 (bys (hash bs)).toArray) := below_setRow' a3 (Nat.le_refl _) _
      have HB11 := Lib.hid hb11
      clear a1 a2 a3 hb11
      go_wp2_with (refine wpList_store_eq rfl 24 _ _ rfl g8 (bys (hash bs)) z32 24 rfl rfl Q810.out H24.out HLZ.out (bys_one' _) ?_)
      intro w11 hw11'
      have hw11 := hw11'.out
      clear hw11'
      have hb11 := HB11.out
      rw [← hw11] at hb11
      have OB11 : Hid (Obj w11 g (bs ++ [7])) := OB9.out.below hb11 hgg8
      have O11 : Hid (Own 5 w11 b2 (.slice A4 nb c4) bs) := O9.out.below hb11 (by omega)
      have B11 : Hid (Below w.heap.size w w11) := B9.out.trans (hb11.mono (by omega))
      have Q611 : Hid (Blk w11 g6 (bys (hash bs)) 24) := Q69.out.below hb11 (by omega)
      have Q711 : Hid (Blk w11 (g6 + 1) (bys (hash bs)) 24) := Q79.out.below hb11 (by omega)
      have Q811 : Hid (Blk w11 g8 (bys (hash bs)) 24) := by rw [hw11]; exact Blk.setRow Q810.out
      have hs11 : g8 < w11.heap.size := by rw [hw11]; simpa using hs10
      clear OB9 O9 B9 Q69 Q79 hb11 hs10 HB11 hw11 Q810
      have R1 : Hid (Rd (w11.heap.size + 1) (w11.alloc (.cells #[.int .u8 7] 5)) (.slice (some ⟨w11.heap.size, 0, none⟩) 1 1) [7]) := Rd.one 5 w11 7
      have O11a : Hid (Own 5 (w11.alloc (.cells #[.int .u8 7] 5)) b2 (.slice A4 nb c4) bs) := O11.out.alloc _
      have hbs12 : b2 ≤ (w11.alloc (.cells #[.int .u8 7] 5)).heap.size := by simp; omega
      have HBS12 := Lib.hid hbs12
      clear hbs12
      go_wp2_with (at_builtin; refine wpList_app_grown rfl _ _ 22 rfl 5 i0 Try.underlying22 HI.out H0.out H1.out H2.out b2 (w11.heap.size + 1) _ _ bs [7] rfl O11a.out rfl R1.out (by simp) (by have := HNB.out; simp; omega) HBS12.out ?_)
      intro v5 w12 hown12 hgr12
      have hsA : (w11.alloc (.cells #[.int .u8 7] 5)).heap.size = w11.heap.size + 1 := by simp
      have hkeep : ∀ k cs t, Blk w11 k cs t → (k < b2 ∨ g6 ≤ k) → Blk w12 k cs t := fun k cs t hb hk => by
        unfold Blk
        rw [hgr12.block k (by rw [hsA]; have := hb.lt; omega) (fun he => by have := HOWN6.out k he.symm; omega), Below.heap_alloc w11 _ k hb.lt]
        exact hb
      have hb12 : Below b2 w11 w12 := ((Below.refl b2 w11).alloc (by omega) _).grown hgr12 (by rw [hsA]; omega) (fun k hk => (HOWN6.out k hk).1)
      have OB12 : Hid (Obj w12 g (bs ++ [7])) := OB11.out.below hb12 hgb
      have O12 := Lib.hid hown12
      have B12 : Hid (Below w.heap.size w w12) := B11.out.trans (hb12.mono (by omega))
      have Q612 : Hid (Blk w12 g6 (bys (hash bs)) 24) := hkeep _ _ _ Q611.out (.inr (Nat.le_refl _))
      have Q712 : Hid (Blk w12 (g6 + 1) (bys (hash bs)) 24) := hkeep _ _ _ Q711.out (.inr (by omega))
      have Q812 : Hid (Blk w12 g8 (bys (hash bs)) 24) := hkeep _ _ _ Q811.out (.inr (by omega))
      clear hown12 hgr12 hkeep hb12 hsA OB11 O11 O11a B11 Q611 Q711 Q811 R1 HBS12 HOWN6
      go_wp2_with fail
      refine (alive_any w12).mono ?_
      rintro e w13 ⟨rfl, hb13⟩
      have OB13 : Hid (Obj w13 g (bs ++ [7])) := OB12.out.below hb13 OB12.out.lt
      have O13 : Hid (Own 5 w13 b2 v5 (bs ++ [7])) := O12.out.below hb13 (Nat.le_refl _)
      have B13 : Hid (Below w.heap.size w w13) := B12.out.trans (hb13.mono B12.out.size)
      have Q613 : Hid (Blk w13 g6 (bys (hash bs)) 24) := Q612.out.below hb13 Q612.out.lt
      have Q713 : Hid (Blk w13 (g6 + 1) (bys (hash bs)) 24) := Q712.out.below hb13 Q712.out.lt
      have Q813 : Hid (Blk w13 g8 (bys (hash bs)) 24) := Q812.out.below hb13 Q812.out.lt
      clear hb13 OB12 O12 B12 Q612 Q712 Q812
      have heq := eq24 (hash bs) (hash_length _) w13
      obtain ⟨h1, hh1⟩ : ∃ x, hash bs = x := ⟨_, rfl⟩
      rw [hh1] at Q613 Q713 Q813 heq H24
      clear hh1
      have hl7 : (bs ++ [7]).length ≤ 1000000 := by have := HNB.out; simp; omega
      have HL7 := Lib.hid hl7
      clear hl7
      go_wp2_with (first | (refine wpList_load_blkG (by rfl) 24 _ rfl g6 rfl (bys h1) 24 Q613.out 32 5 tu24 H24.out ?_) | (refine wpList_load_blkG (by rfl) 24 _ rfl g8 rfl (bys h1) 24 Q813.out 32 5 tu24 H24.out ?_) | (refine wpList_load_blkG (by rfl) 24 _ rfl (g6 + 1) rfl (bys h1) 24 Q713.out 32 5 tu24 H24.out ?_))
      clear heq
      refine (sumS_any g (bs ++ [7]) w13 OB13.out HL7.out).mono ?_
      rintro e w14 ⟨rfl, hb14⟩
      have O14 : Hid (Own 5 w14 b2 v5 (bs ++ [7])) := O13.out.below hb14 (Nat.le_refl _)
      have B14 : Hid (Below w.heap.size w w14) := B13.out.trans (hb14.mono B13.out.size)
      clear hb14 O13 B13
      go_wp2_with fail
      refine (sum_any _ (bs ++ [7]) w14 O14.out.rd).mono ?_
      rintro e w15 ⟨rfl, hb15⟩
      have heq := eq24 (hash (bs ++ [7])) (hash_length _) w15
      have B15 : Hid (Below w.heap.size w w15) := B14.out.trans (hb15.mono B14.out.size)
      clear hb15 B14 O14
      go_wp2
      go_ret
      exact ⟨rfl, B15.out⟩
end Go.Proofs.Ytochamncdplaiaa
