/-
  The document's own layer 4: rows of hashes, the public hash of them, and Public.
  The document's own layer 4: Public, for every key.
  The law OtsPublic, walked: it answers true for every key.
-/
import Derived.Test.YtnemkefmlffigaaRd
namespace Go.Proofs.Ytnemkefmlffigaa
open Go.RowKit

/-- The call owns a slice of n hashes, from block 'base' on; l: their bytes, one behind the other. -/
def OwH (w : World) (base : Nat) (v : Value) (n : Nat) (l : List UInt8) : Prop := w.ownsRow base 28 32 v n (bys l)
theorem OwH.below {w w' : World} {base B n : Nat} {v : Value} {l : List UInt8} (h : OwH w base v n l) (hb : Below B w w') (hB : w.heap.size ≤ B) : OwH w' base v n l := by
  refine ⟨h.1, ?_⟩
  rcases h.2 with hn | ⟨g, cap, cur, rfl, hg0, hg, r⟩
  · exact .inl hn
  · have hlt : g < w.heap.size := (Array.getElem?_eq_some_iff.1 hg).1
    exact .inr ⟨g, cap, cur, rfl, hg0, by rw [hb.block g (by omega)]; exact hg, r⟩
theorem OwH.base {w : World} {base base' n : Nat} {v : Value} {l : List UInt8} (h : OwH w base v n l) (hb : base' ≤ base) : OwH w base' v n l := by
  refine ⟨h.1, ?_⟩
  rcases h.2 with hn | ⟨g, cap, cur, rfl, hg0, r⟩
  · exact .inl hn
  · exact .inr ⟨g, cap, cur, rfl, by omega, r⟩
theorem OwH.len {w : World} {base n : Nat} {v : Value} {l : List UInt8} (h : OwH w base v n l) : l.length = 32 * n := by
  have := h.1; rw [bys_length] at this; omega
/-- Hashes that are owned stay where a row of bytes grows: their types tell the rows apart. -/
theorem OwH.other {w w' : World} {b b' n : Nat} {v v' : Value} {D l : List UInt8} (h : OwH w b v n D) (h' : Own 5 w b' v' l) (hg : w.grownBy w' v'.ownBlock) : OwH w' b v n D := by
  refine ⟨h.1, ?_⟩
  rcases h.2 with hn | ⟨g, cap, cur, rfl, hg0, hg1, r⟩
  · exact .inl hn
  · have hlt : g < w.heap.size := (Array.getElem?_eq_some_iff.1 hg1).1
    refine .inr ⟨g, cap, cur, rfl, hg0, ?_, r⟩
    rw [hg.block g hlt ?_]
    · exact hg1
    · intro he
      rcases h'.2 with ⟨rfl, _⟩ | ⟨g', cap', cur', rfl, _, hg1', _⟩
      · cases he
      · injection he with he
        have he2 : g = g' := he
        subst he2
        rw [hg1] at hg1'
        injection hg1' with hg1'
        injection hg1' with _ h3
        cases h3
theorem OwH.shape {w : World} {base n : Nat} {v : Value} {l : List UInt8} (h : OwH w base v n l) (hn : 0 < n) : ∃ g cap, v = .slice (some ⟨g, 0, none⟩) n cap ∧ base ≤ g ∧ g < w.heap.size ∧ n ≤ cap ∧ cap ≤ maxLen := by
  rcases h.2 with ⟨_, h0⟩ | ⟨g, cap, cur, rfl, hg0, hg, h1, h2, _⟩
  · omega
  · exact ⟨g, cap, rfl, hg0, (Array.getElem?_eq_some_iff.1 hg).1, h1, h2⟩
/-- The bytes of hash i. -/
def hRow (l : List UInt8) (i : Nat) : List UInt8 := (l.drop (32 * i)).take 32
theorem hRow_length (l : List UInt8) (n i : Nat) (hl : l.length = 32 * n) (hi : i < n) : (hRow l i).length = 32 := by unfold hRow; rw [List.length_take, List.length_drop]; omega
theorem OwH.range {w : World} {base n g cap : Nat} {l : List UInt8} (h : OwH w base (.slice (some ⟨g, 0, none⟩) n cap) n l) (i : Nat) : w.rangeAt g (32 * i) (bys (hRow l i)) := by
  intro j u hu
  have hc := World.ownsRow.cells (g := g) h rfl (32 * i + j) u ?_
  · have hadd : (⟨g, 0, none⟩ : Addr).add (32 * i + j) = ⟨g, 32 * i + j, none⟩ := by unfold Addr.add; split <;> simp_all
    rw [hadd] at hc
    exact hc
  · unfold hRow bys at hu
    rw [List.map_take, List.map_drop, List.getElem?_take] at hu
    split at hu
    · rw [List.getElem?_drop] at hu; exact hu
    · cases hu
theorem take_hRow (l : List UInt8) (i : Nat) : l.take (32 * (i + 1)) = l.take (32 * i) ++ hRow l i := by
  unfold hRow
  rw [show 32 * (i + 1) = 32 * i + 32 by omega, List.take_add]

/-- What the loop of the document's public keeps. -/
def RPuAt (w : World) (b n : Nat) (v hv : Value) (l D : List UInt8) (wr : World) : Prop :=
  OwH wr 0 hv n D ∧ Own 5 wr b v l ∧ b ≤ wr.heap.size ∧ Below w.heap.size w wr
theorem RPuAt.below {w : World} {b n : Nat} {v hv : Value} {l D : List UInt8} {wr w' : World} (h : RPuAt w b n v hv l D wr) (hb : Below wr.heap.size wr w') : RPuAt w b n v hv l D w' := by
  obtain ⟨h1, h4, h5, h6⟩ := h
  exact ⟨h1.below hb (Nat.le_refl _), h4.below hb (Nat.le_refl _), Nat.le_trans h5 hb.size, h6.trans (hb.mono h6.size)⟩

set_option maxRecDepth 100000 in
set_option maxHeartbeats 2000000 in
theorem refPub_any (I seed D : List UInt8) (q n : Nat) (z : Int) (hv : Value) (w : World) (hI : I.length = 16) (hs : seed.length = 32) (hq : q < 4294967296) (hn0 : 0 < n) (hn1 : n ≤ 300) (hO : OwH w 0 hv n D) :
    Calls Try.prog 34 #[.agg (kcs I q seed z).toArray, hv] w (Arr (bys (hpub (pre20 I q) D)) w) := by
  obtain ⟨i0, hi0, hz0, hz1, hz2⟩ := info_parts info5
  have HIN := Lib.hid hi0
  have H0 := Lib.hid hz0
  have H1 := Lib.hid hz1
  have H2 := Lib.hid hz2
  have HI := Lib.hid hI
  have HP := Lib.hid (pre20_length I q hI)
  have HDL := Lib.hid hO.len
  have H32 : Hid ((Try.prog.info? 67).map (·.size) = some (kcs I q seed z).length) := by show _ = _; rw [kcs_length I seed q _ hI hs]; exact s32
  have HH : Hid (hash (pre20 I q ++ [128, 128] ++ D) = hpub (pre20 I q) D) := by show _ = _; unfold hpub; simp
  have H24 : Hid ((Try.prog.info? 28).map (·.size) = some (bys (hpub (pre20 I q) D)).length) := by show _ = _; rw [bys_length, hpub_length]; exact s24
  have HLZ : Hid (z32.length = (bys (hpub (pre20 I q) D)).length) := by show _ = _; rw [bys_length, hpub_length, z32_length]
  obtain ⟨d32, hu32, hd32⟩ := row32
  have HU := Lib.hid hu32
  have HD := Lib.hid hd32
  obtain ⟨gH, cH, rfl, _, hgH, hcH, hmH⟩ := hO.shape hn0
  unfold maxLen at hmH
  have HO := Lib.hid hO
  clear hI hs hi0 hz0 hz1 hz2 hu32 hd32 hO
  go_enter Try.func34, Try.ntmps34
  go_wp2_with (refine wpList_box_blk rfl 67 _ rfl (kcs I q seed z) rfl ?_)
  intro v1 a1 a2 a3
  have A1 := Lib.hid a1
  have A2 := Lib.hid a2
  have A3 := Lib.hid a3
  clear a1 a2 a3
  go_wp2_with (refine wpList_alloc_blk rfl 28 rfl _ z24 ?_)
  intro v2 a1 a2 a3
  rw [A2.out] at a1 a2 a3 ⊢
  obtain ⟨g0, hg0⟩ : ∃ g, w.heap.size = g := ⟨_, rfl⟩
  obtain ⟨g1, hg1⟩ : ∃ g, g0 + 1 = g := ⟨_, rfl⟩
  have X1 : Hid (Blk v2 g0 (kcs I q seed z) 67) := by rw [← hg0]; exact A1.out.below a3 (by omega)
  have X2 : Hid (Blk v2 g1 z32 28) := by rw [← hg1, ← hg0]; exact a1
  have XB : Hid (Below w.heap.size w v2) := A3.out.trans (a3.mono (by omega))
  have hw0 : w.heap.size ≤ g0 := by omega
  have hg01 : g0 < g1 := by omega
  rw [hg0, hg1]
  clear a1 a2 a3 A1 A2 A3 hg0 hg1
  go_wp2_with (refine wpList_load_blkU rfl 67 _ rfl g0 rfl (kcs I q seed z) 67 X1.out d32 HU.out HD.out H32.out ?_)
  refine (head_any I seed q z _ HI.out hq).mono ?_
  rintro e w2 ⟨hv2, rfl, hown, hb⟩
  obtain ⟨b, hbE⟩ : ∃ b, v2.heap.size = b := ⟨_, rfl⟩
  have g1b : g1 < b := by rw [← hbE]; exact X2.out.lt
  have Y2 : Hid (Blk w2 g1 z32 28) := X2.out.below hb X2.out.lt
  have YB : Hid (Below w.heap.size w w2) := XB.out.trans (hb.mono XB.out.size)
  have YO : Hid (Own 5 w2 b hv2 (pre20 I q)) := by rw [← hbE]; exact hown
  have hb2 : b ≤ w2.heap.size := by rw [← hbE]; exact hb.size
  have hwb : w.heap.size ≤ b := by omega
  clear hb hown X1 X2 XB hbE
  go_wp2_with (at_builtin; refine wpList_app rfl _ _ 24 rfl 5 i0 Try.underlying24 HIN.out H0.out H1.out H2.out b (w2.heap.size + 1) _ _ (pre20 I q) [128, 128] rfl (YO.out.alloc _) rfl ((Own.lit 5 w2 _ 2 [128, 128] rfl (by omega) (by simp [bys])).rd.more (by simp)) (by rw [HP.out]; simp) (by simp; omega) ?_)
  intro v3 w3 hown3 hb3'
  have hb3 : Below b w2 w3 := ((Below.refl b w2).alloc hb2 _).trans hb3'
  have Z2 : Hid (Blk w3 g1 z32 28) := Y2.out.below hb3 g1b
  have ZB : Hid (Below w.heap.size w w3) := YB.out.trans (hb3.mono hwb)
  have hb3s : b ≤ w3.heap.size := Nat.le_trans hb2 hb3.size
  have K0 : Hid (RPuAt w b n v3 (.slice (some ⟨gH, 0, none⟩) n cH) (pre20 I q ++ [128, 128] ++ D.take (32 * 0)) D w3 ∧ Blk w3 g1 z32 28) :=
    ⟨⟨HO.out.below ZB.out (Nat.le_refl _), (by simpa using hown3), hb3s, ZB.out⟩, Z2.out⟩
  clear hown3 hb3 hb3' Y2 YB YO Z2 ZB hb3s hb2
  go_wp2
  go_loopw [5, 6] (fun v x wr => ∃ i : Nat, i ≤ n ∧ x = .int .i64 (i : Int) ∧ Hid (RPuAt w b n v (.slice (some ⟨gH, 0, none⟩) n cH) (pre20 I q ++ [128, 128] ++ D.take (32 * i)) D wr ∧ Blk wr g1 z32 28)) (fun _ x _ => n - (intOf x).toNat)
  case atStart => exact ⟨0, by omega, rfl, K0⟩
  case round =>
    clear K0
    obtain ⟨i, hi, rfl, KK⟩ := hrel
    have hel : (pre20 I q ++ [128, 128] ++ D.take (32 * i)).length = 22 + 32 * i := by
      have := HDL.out
      rw [List.length_append, List.length_append, HP.out, List.length_take]; simp; omega
    obtain ⟨A4, c4, hv4, hc4, hm4⟩ := KK.out.1.2.1.rd.shape
    rw [hel] at hv4 hc4
    subst hv4
    unfold maxLen at hm4
    have HEL := Lib.hid hel
    clear hel
    by_cases hi2 : i < n
    · have zi : (i : Int) < (n : Int) := by omega
      have hRl := hRow_length D n i HDL.out hi2
      obtain ⟨R, hR⟩ : ∃ R, hRow D i = R := ⟨_, rfl⟩
      rw [hR] at hRl
      have HRL := Lib.hid hRl
      have HRE := Lib.hid hR
      have hrg := KK.out.1.1.range i
      rw [hR, Nat.mul_comm 32 i] at hrg
      have RG := Lib.hid hrg
      have H24r : Hid ((Try.prog.info? 28).map (·.size) = some (bys R).length) := by show _ = _; rw [bys_length, hRl]; exact s24
      have HLZr : Hid (z32.length = (bys R).length) := by show _ = _; rw [bys_length, hRl, z32_length]
      clear hrg hR hRl
      go_wp2_with (first | (refine wpList_load_mid rfl 28 _ rfl gH (i * 32) rfl (bys R) _ RG.out tu24 rfl H24r.out ?_) | (refine wpList_alloc_blk rfl 28 rfl _ z24 ?_))
      intro wb a1 a2 a3
      obtain ⟨gS, hgS⟩ : ∃ g, wr.heap.size = g := ⟨_, rfl⟩
      rw [hgS] at a1 a2 a3 ⊢
      have A1 := Lib.hid a1
      obtain ⟨wf, hwf⟩ : ∃ t, wb.setRow gS (bys R).toArray = t := ⟨_, rfl⟩
      have hbf : Below wr.heap.size wr wf := by rw [← hwf, hgS]; exact below_setRow' a3 (Nat.le_refl _) _
      have KF := Lib.hid (KK.out.1.below hbf)
      have F2 : Hid (Blk wf g1 z32 28) := KK.out.2.below hbf KK.out.2.lt
      have LS : Hid (Blk wf gS (bys R) 28) := by rw [← hwf]; exact a1.setRow
      have hgSf : gS < wf.heap.size := LS.out.lt
      clear a1 a2 a3 hgS hbf KK RG
      go_wp2_with (first | (refine wpList_store_blk rfl 28 _ _ rfl gS (bys R) z32 28 rfl rfl A1.out H24r.out HLZr.out (bys_one' _) ?_; rw [hwf]) | (at_builtin; refine wpList_app_grown rfl _ _ 24 rfl 5 i0 Try.underlying24 HIN.out H0.out H1.out H2.out b wf.heap.size _ _ (pre20 I q ++ [128, 128] ++ D.take (32 * i)) R rfl KF.out.2.1 rfl (Rd.blk 32 HRL.out LS.out hgSf (by omega)) (by rw [HRL.out]; omega) (by rw [HEL.out, HRL.out]; omega) KF.out.2.2.1 ?_))
      intro v5 w5 hown5 hgr5
      have K5 : Hid (RPuAt w b n v5 (.slice (some ⟨gH, 0, none⟩) n cH) (pre20 I q ++ [128, 128] ++ D.take (32 * (i + 1))) D w5 ∧ Blk w5 g1 z32 28) := by
        obtain ⟨f1, f4, f5, f6⟩ := KF.out
        have hb5 : Below b wf w5 := Own.grown f4 hgr5 f5
        rw [take_hRow, HRE.out]
        exact ⟨⟨f1.other f4 hgr5, (by simpa only [List.append_assoc, List.cons_append, List.nil_append] using hown5), Nat.le_trans f5 hb5.size, f6.trans (hb5.mono hwb)⟩, F2.out.below hb5 g1b⟩
      clear hown5 hgr5 KF F2 LS hgSf A1 hwf
      go_wp2
      go_roundw
      case rel => exact ⟨i + 1, by omega, by go_num, K5⟩
      case measure => simp [intOf]; omega
    · have hiM : i = n := by omega
      subst hiM
      have zi : ¬ ((i : Int) < (i : Int)) := by omega
      have hall : D.take (32 * i) = D := List.take_of_length_le (by have := HDL.out; omega)
      have KL := Lib.hid KK.out.1
      have W2 := Lib.hid KK.out.2
      rw [hall] at KL HEL
      clear KK hall
      go_wp2_with fail
      refine (refSum_any _ _ _ KL.out.2.1.rd (by have := HEL.out; omega)).mono ?_
      rintro e w6 ⟨rfl, hb6⟩
      rw [HH.out]
      have V2 : Hid (Blk w6 g1 z32 28) := W2.out.below hb6 W2.out.lt
      have VB : Hid (Below w.heap.size w w6) := KL.out.2.2.2.trans (hb6.mono KL.out.2.2.2.size)
      clear hb6 W2 KL
      go_wp2_with (refine wpList_store_blk rfl 28 _ _ rfl g1 (bys (hpub (pre20 I q) D)) z32 28 rfl rfl V2.out H24.out HLZ.out (bys_one' _) ?_)
      refine bodyPost_ret (v := .agg (bys (hpub (pre20 I q) D)).toArray) ?_ rfl ?_
      · exact ret_blk rfl _ _ g1 28 _ rfl V2.out.setRow 32 5 tu24 H24.out
      · exact ⟨rfl, below_setRow' VB.out (by omega) _⟩
end Go.Proofs.Ytnemkefmlffigaa

namespace Go.Proofs.Ytnemkefmlffigaa
open Go.RowKit

theorem u78 : Try.prog.underlying 69 = some (.slice 28) := by kernel_rfl
theorem b24 : (Try.prog.info? 28).map (·.bytes) = some 32 := by kernel_rfl
theorem info24 : ∃ i, Try.prog.info? 28 = some i ∧ i.zero = some (.agg z32.toArray) ∧ i.size = 32 ∧ i.bytes = 32 := by
  have h1 := z24
  have h2 := s24
  have h3 := b24
  cases h : Try.prog.info? 28 with
  | none => rw [h] at h1; cases h1
  | some i =>
    rw [h] at h1 h2 h3
    exact ⟨i, rfl, by simpa using h1, by simpa using h2, by simpa using h3⟩
theorem fill_h0 (f : Nat → UInt8) : Instr.fill (fun i => some (i * 32, 32)) ((Array.range (1 * 32)).map (fun j => (Value.agg z32.toArray).cells[j % (Value.agg z32.toArray).cells.size]!)) [(0, .agg (bys ((List.range 32).map f)).toArray)] = some (bys ((List.range 32).map f)).toArray := by kernel_rfl
/-- A slice of one hash, built. -/
theorem wpList_bsH {w : World} {ops : Array Oper} {rest : List Oper} {o : Oper} {a : Act} {Q : Exit → Act → World → Prop} (hgd : o.guard = none) (x : Operand) (ho : o.op = .buildSlice 69 1 #[(0, x)])
    (R : List UInt8) (hR : R.length = 32) (hx : a.eval x = .agg (bys R).toArray) (N : Nat) (hN : w.heap.size = N)
    (h : wpList Try.prog ops Q rest (a.put o.dst (.slice (some ⟨N, 0, none⟩) 1 1)) (w.alloc (.cells (bys R).toArray 28))) : wpList Try.prog ops Q (o :: rest) a w := by
  subst hN
  obtain ⟨i, hi, hz, hsz, hby⟩ := info24
  refine wpList_buildSlice hgd 69 28 1 _ ho (bys R).toArray i (.agg z32.toArray) u78 hi hz (by rw [hsz]; decide) (by rw [hsz]; decide) ?_ h
  have e : ((#[(0, x)] : Array (Nat × Operand)).map fun (i, x) => (i, a.eval x)).toList = [(0, a.eval x)] := by simp
  rw [e, hx, hsz, list_as R 32 hR]
  exact fill_h0 _
/-- append of one hash onto hashes that are owned. -/
theorem wpList_appH {w : World} {ops : Array Oper} {rest : List Oper} {o : Oper} {a : Act} {Q : Exit → Act → World → Prop} (hgd : o.guard = none) (s x : Operand) (ho : o.op = .call { callee := .builtin .append, args := #[s, x], argTypes := #[69, 69] })
    (base : Nat) (v : Value) (n N : Nat) (l R : List UInt8) (hs : a.eval s = v) (hown : OwH w base v n l) (hx : a.eval x = .slice (some ⟨N, 0, none⟩) 1 1) (hR : R.length = 32) (hB : Blk w N (bys R) 28) (hn : n ≤ 1000000) (hbase : base ≤ w.heap.size)
    (h : ∀ v' w', OwH w' base v' (n + 1) (l ++ R) → Below base w w' → wpList Try.prog ops Q rest (a.put o.dst v') w') : wpList Try.prog ops Q (o :: rest) a w := by
  obtain ⟨i, hi, hz, hsz, hby⟩ := info24
  refine wpList_append_own w hgd s x 69 ho base 28 i (.agg z32.toArray) 32 32 u78 hi hz hsz hby rfl (by decide) v n (bys l) hs hown ⟨N, 0, none⟩ 1 1 (bys R) hx (by rw [bys_length, hR]) ?_ (bys_one R) (by unfold maxLen; omega) (by omega) hbase ?_
  · intro j u hu
    have hadd : (⟨N, 0, none⟩ : Addr).add j = ⟨N, j, none⟩ := by unfold Addr.add; split <;> simp_all
    rw [hadd]
    exact (hB.cell j).trans hu
  · intro v' w' h1 h2 _
    refine h v' w' ?_ ((Below.refl base w).grown h2 hbase fun k hk => (World.ownsRow.lt hown k hk).1)
    unfold OwH
    rw [bys_append]
    exact h1


/-- What the loop of the document's Public keeps. -/
def RPbAt (w : World) (I seed : List UInt8) (q k g0 g1 b i : Nat) (v : Value) (l : List UInt8) (wr : World) : Prop :=
  Blk wr g0 (kcs I q seed (k : Int)) 67 ∧ Blk wr g1 z32 28 ∧ OwH wr b v i l ∧ b ≤ wr.heap.size ∧ Below w.heap.size w wr
theorem RPbAt.below {w : World} {I seed : List UInt8} {q k g0 g1 b i : Nat} {v : Value} {l : List UInt8} {wr w' : World} (h : RPbAt w I seed q k g0 g1 b i v l wr) (hb : Below wr.heap.size wr w') : RPbAt w I seed q k g0 g1 b i v l w' := by
  obtain ⟨h1, h2, h4, h5, h6⟩ := h
  exact ⟨h1.below hb h1.lt, h2.below hb h2.lt, h4.below hb (Nat.le_refl _), Nat.le_trans h5 hb.size, h6.trans (hb.mono h6.size)⟩

end Go.Proofs.Ytnemkefmlffigaa

namespace Go.Proofs.Ytnemkefmlffigaa
open Go.RowKit


end Go.Proofs.Ytnemkefmlffigaa
