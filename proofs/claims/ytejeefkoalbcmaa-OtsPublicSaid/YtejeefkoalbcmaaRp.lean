/-
  The document's own layer 4: rows of hashes, the public hash of them, and Public.
  The document's own layer 4: Public, for every key.
  The law OtsPublic, walked: it answers true for every key.
-/
import Derived.Test.YtejeefkoalbcmaaRd
namespace Go.Proofs.Ytejeefkoalbcmaa
open Go.RowKit

/-- The call owns a slice of n hashes, from block 'base' on; l: their bytes, one behind the other. -/
def OwH (w : World) (base : Nat) (v : Value) (n : Nat) (l : List UInt8) : Prop := w.ownsRow base 24 32 v n (bys l)
theorem OwH.below {w w' : World} {base B n : Nat} {v : Value} {l : List UInt8} (h : OwH w base v n l) (hb : Below B w w') (hB : w.heap.size ≤ B) : OwH w' base v n l := by
  refine ⟨h.1, ?_⟩
  rcases h.2 with hn | ⟨g, cap, cur, rfl, hg0, hg, r⟩
  · exact .inl hn
  · have hlt : g < w.heap.size := (Array.getElem?_eq_some_iff.1 hg).1
    exact .inr ⟨g, cap, cur, rfl, hg0, by rw [hb.block g (by omega)]; exact hg, r⟩
theorem OwH.base {w : World} {base base' n : Nat} {v : Value} {l : List UInt8} (h : OwH w base v n l) (hb : base' ≤ base) : OwH w base' v n l := by
  refine ⟨h.1, ?_⟩
  rcases h.2 with hn | ⟨g, cap, cur, rfl, hg0, r⟩
  · exact .inl hn
  · exact .inr ⟨g, cap, cur, rfl, by omega, r⟩
theorem OwH.len {w : World} {base n : Nat} {v : Value} {l : List UInt8} (h : OwH w base v n l) : l.length = 32 * n := by
  have := h.1; rw [bys_length] at this; omega
/-- Hashes that are owned stay where a row of bytes grows: their types tell the rows apart. -/
theorem OwH.other {w w' : World} {b b' n : Nat} {v v' : Value} {D l : List UInt8} (h : OwH w b v n D) (h' : Own 5 w b' v' l) (hg : w.grownBy w' v'.ownBlock) : OwH w' b v n D := by
  refine ⟨h.1, ?_⟩
  rcases h.2 with hn | ⟨g, cap, cur, rfl, hg0, hg1, r⟩
  · exact .inl hn
  · have hlt : g < w.heap.size := (Array.getElem?_eq_some_iff.1 hg1).1
    refine .inr ⟨g, cap, cur, rfl, hg0, ?_, r⟩
    rw [hg.block g hlt ?_]
    · exact hg1
    · intro he
      rcases h'.2 with ⟨rfl, _⟩ | ⟨g', cap', cur', rfl, _, hg1', _⟩
      · cases he
      · injection he with he
        have he2 : g = g' := he
        subst he2
        rw [hg1] at hg1'
        injection hg1' with hg1'
        injection hg1' with _ h3
        cases h3
theorem OwH.shape {w : World} {base n : Nat} {v : Value} {l : List UInt8} (h : OwH w base v n l) (hn : 0 < n) : ∃ g cap, v = .slice (some ⟨g, 0, none⟩) n cap ∧ base ≤ g ∧ g < w.heap.size ∧ n ≤ cap ∧ cap ≤ maxLen := by
  rcases h.2 with ⟨_, h0⟩ | ⟨g, cap, cur, rfl, hg0, hg, h1, h2, _⟩
  · omega
  · exact ⟨g, cap, rfl, hg0, (Array.getElem?_eq_some_iff.1 hg).1, h1, h2⟩
/-- The bytes of hash i. -/
def hRow (l : List UInt8) (i : Nat) : List UInt8 := (l.drop (32 * i)).take 32
theorem hRow_length (l : List UInt8) (n i : Nat) (hl : l.length = 32 * n) (hi : i < n) : (hRow l i).length = 32 := by unfold hRow; rw [List.length_take, List.length_drop]; omega
theorem OwH.range {w : World} {base n g cap : Nat} {l : List UInt8} (h : OwH w base (.slice (some ⟨g, 0, none⟩) n cap) n l) (i : Nat) : w.rangeAt g (32 * i) (bys (hRow l i)) := by
  intro j u hu
  have hc := World.ownsRow.cells (g := g) h rfl (32 * i + j) u ?_
  · have hadd : (⟨g, 0, none⟩ : Addr).add (32 * i + j) = ⟨g, 32 * i + j, none⟩ := by unfold Addr.add; split <;> simp_all
    rw [hadd] at hc
    exact hc
  · unfold hRow bys at hu
    rw [List.map_take, List.map_drop, List.getElem?_take] at hu
    split at hu
    · rw [List.getElem?_drop] at hu; exact hu
    · cases hu
theorem take_hRow (l : List UInt8) (i : Nat) : l.take (32 * (i + 1)) = l.take (32 * i) ++ hRow l i := by
  unfold hRow
  rw [show 32 * (i + 1) = 32 * i + 32 by omega, List.take_add]

/-- What the loop of the document's public keeps. -/
def RPuAt (w : World) (b n : Nat) (v hv : Value) (l D : List UInt8) (wr : World) : Prop :=
  OwH wr 0 hv n D ∧ Own 5 wr b v l ∧ b ≤ wr.heap.size ∧ Below w.heap.size w wr
theorem RPuAt.below {w : World} {b n : Nat} {v hv : Value} {l D : List UInt8} {wr w' : World} (h : RPuAt w b n v hv l D wr) (hb : Below wr.heap.size wr w') : RPuAt w b n v hv l D w' := by
  obtain ⟨h1, h4, h5, h6⟩ := h
  exact ⟨h1.below hb (Nat.le_refl _), h4.below hb (Nat.le_refl _), Nat.le_trans h5 hb.size, h6.trans (hb.mono h6.size)⟩

set_option maxRecDepth 100000 in
set_option maxHeartbeats 2000000 in
theorem refPub_any (I seed D : List UInt8) (q n : Nat) (z : Int) (hv : Value) (w : World) (hI : I.length = 16) (hs : seed.length = 32) (hq : q < 4294967296) (hn0 : 0 < n) (hn1 : n ≤ 300) (hO : OwH w 0 hv n D) :
    Calls Try.prog 43 #[.agg (kcs I q seed z).toArray, hv] w (Arr (bys (hpub (pre20 I q) D)) w) := by
  obtain ⟨i0, hi0, hz0, hz1, hz2⟩ := info_parts info5
  have HIN := Lib.hid hi0
  have H0 := Lib.hid hz0
  have H1 := Lib.hid hz1
  have H2 := Lib.hid hz2
  have HI := Lib.hid hI
  have HP := Lib.hid (pre20_length I q hI)
  have HDL := Lib.hid hO.len
  have H32 : Hid ((Try.prog.info? 32).map (·.size) = some (kcs I q seed z).length) := by show _ = _; rw [kcs_length I seed q _ hI hs]; exact s32
  have HH : Hid (hash (pre20 I q ++ [128, 128] ++ D) = hpub (pre20 I q) D) := by show _ = _; unfold hpub; simp
  have H24 : Hid ((Try.prog.info? 24).map (·.size) = some (bys (hpub (pre20 I q) D)).length) := by show _ = _; rw [bys_length, hpub_length]; exact s24
  have HLZ : Hid (z32.length = (bys (hpub (pre20 I q) D)).length) := by show _ = _; rw [bys_length, hpub_length, z32_length]
  obtain ⟨d32, hu32, hd32⟩ := row32
  have HU := Lib.hid hu32
  have HD := Lib.hid hd32
  obtain ⟨gH, cH, rfl, _, hgH, hcH, hmH⟩ := hO.shape hn0
  unfold maxLen at hmH
  have HO := Lib.hid hO
  clear hI hs hi0 hz0 hz1 hz2 hu32 hd32 hO
  go_enter Try.func43, Try.ntmps43
  go_wp2_with (refine wpList_box_blk rfl 32 _ rfl (kcs I q seed z) rfl ?_)
  intro v1 a1 a2 a3
  have A1 := Lib.hid a1
  have A2 := Lib.hid a2
  have A3 := Lib.hid a3
  clear a1 a2 a3
  go_wp2_with (refine wpList_alloc_blk rfl 24 rfl _ z24 ?_)
  intro v2 a1 a2 a3
  rw [A2.out] at a1 a2 a3 ⊢
  obtain ⟨g0, hg0⟩ : ∃ g, w.heap.size = g := ⟨_, rfl⟩
  obtain ⟨g1, hg1⟩ : ∃ g, g0 + 1 = g := ⟨_, rfl⟩
  have X1 : Hid (Blk v2 g0 (kcs I q seed z) 32) := by rw [← hg0]; exact A1.out.below a3 (by omega)
  have X2 : Hid (Blk v2 g1 z32 24) := by rw [← hg1, ← hg0]; exact a1
  have XB : Hid (Below w.heap.size w v2) := A3.out.trans (a3.mono (by omega))
  have hw0 : w.heap.size ≤ g0 := by omega
  have hg01 : g0 < g1 := by omega
  rw [hg0, hg1]
  clear a1 a2 a3 A1 A2 A3 hg0 hg1
  go_wp2_with (refine wpList_load_blkU rfl 32 _ rfl g0 rfl (kcs I q seed z) 32 X1.out d32 HU.out HD.out H32.out ?_)
  refine (head_any I seed q z _ HI.out hq).mono ?_
  rintro e w2 ⟨hv2, rfl, hown, hb⟩
  obtain ⟨b, hbE⟩ : ∃ b, v2.heap.size = b := ⟨_, rfl⟩
  have g1b : g1 < b := by rw [← hbE]; exact X2.out.lt
  have Y2 : Hid (Blk w2 g1 z32 24) := X2.out.below hb X2.out.lt
  have YB : Hid (Below w.heap.size w w2) := XB.out.trans (hb.mono XB.out.size)
  have YO : Hid (Own 5 w2 b hv2 (pre20 I q)) := by rw [← hbE]; exact hown
  have hb2 : b ≤ w2.heap.size := by rw [← hbE]; exact hb.size
  have hwb : w.heap.size ≤ b := by omega
  clear hb hown X1 X2 XB hbE
  go_wp2_with (at_builtin; refine wpList_app rfl _ _ 42 rfl 5 i0 Try.underlying42 HIN.out H0.out H1.out H2.out b (w2.heap.size + 1) _ _ (pre20 I q) [128, 128] rfl (YO.out.alloc _) rfl ((Own.lit 5 w2 _ 2 [128, 128] rfl (by omega) (by simp [bys])).rd.more (by simp)) (by rw [HP.out]; simp) (by simp; omega) ?_)
  intro v3 w3 hown3 hb3'
  have hb3 : Below b w2 w3 := ((Below.refl b w2).alloc hb2 _).trans hb3'
  have Z2 : Hid (Blk w3 g1 z32 24) := Y2.out.below hb3 g1b
  have ZB : Hid (Below w.heap.size w w3) := YB.out.trans (hb3.mono hwb)
  have hb3s : b ≤ w3.heap.size := Nat.le_trans hb2 hb3.size
  have K0 : Hid (RPuAt w b n v3 (.slice (some ⟨gH, 0, none⟩) n cH) (pre20 I q ++ [128, 128] ++ D.take (32 * 0)) D w3 ∧ Blk w3 g1 z32 24) :=
    ⟨⟨HO.out.below ZB.out (Nat.le_refl _), (by simpa using hown3), hb3s, ZB.out⟩, Z2.out⟩
  clear hown3 hb3 hb3' Y2 YB YO Z2 ZB hb3s hb2
  go_wp2
  go_loopw [5, 6] (fun v x wr => ∃ i : Nat, i ≤ n ∧ x = .int .i64 (i : Int) ∧ Hid (RPuAt w b n v (.slice (some ⟨gH, 0, none⟩) n cH) (pre20 I q ++ [128, 128] ++ D.take (32 * i)) D wr ∧ Blk wr g1 z32 24)) (fun _ x _ => n - (intOf x).toNat)
  case atStart => exact ⟨0, by omega, rfl, K0⟩
  case round =>
    clear K0
    obtain ⟨i, hi, rfl, KK⟩ := hrel
    have hel : (pre20 I q ++ [128, 128] ++ D.take (32 * i)).length = 22 + 32 * i := by
      have := HDL.out
      rw [List.length_append, List.length_append, HP.out, List.length_take]; simp; omega
    obtain ⟨A4, c4, hv4, hc4, hm4⟩ := KK.out.1.2.1.rd.shape
    rw [hel] at hv4 hc4
    subst hv4
    unfold maxLen at hm4
    have HEL := Lib.hid hel
    clear hel
    by_cases hi2 : i < n
    · have zi : (i : Int) < (n : Int) := by omega
      have hRl := hRow_length D n i HDL.out hi2
      obtain ⟨R, hR⟩ : ∃ R, hRow D i = R := ⟨_, rfl⟩
      rw [hR] at hRl
      have HRL := Lib.hid hRl
      have HRE := Lib.hid hR
      have hrg := KK.out.1.1.range i
      rw [hR, Nat.mul_comm 32 i] at hrg
      have RG := Lib.hid hrg
      have H24r : Hid ((Try.prog.info? 24).map (·.size) = some (bys R).length) := by show _ = _; rw [bys_length, hRl]; exact s24
      have HLZr : Hid (z32.length = (bys R).length) := by show _ = _; rw [bys_length, hRl, z32_length]
      clear hrg hR hRl
      go_wp2_with (first | (refine wpList_load_mid rfl 24 _ rfl gH (i * 32) rfl (bys R) _ RG.out tu24 rfl H24r.out ?_) | (refine wpList_alloc_blk rfl 24 rfl _ z24 ?_))
      intro wb a1 a2 a3
      obtain ⟨gS, hgS⟩ : ∃ g, wr.heap.size = g := ⟨_, rfl⟩
      rw [hgS] at a1 a2 a3 ⊢
      have A1 := Lib.hid a1
      obtain ⟨wf, hwf⟩ : ∃ t, wb.setRow gS (bys R).toArray = t := ⟨_, rfl⟩
      have hbf : Below wr.heap.size wr wf := by rw [← hwf, hgS]; exact below_setRow' a3 (Nat.le_refl _) _
      have KF := Lib.hid (KK.out.1.below hbf)
      have F2 : Hid (Blk wf g1 z32 24) := KK.out.2.below hbf KK.out.2.lt
      have LS : Hid (Blk wf gS (bys R) 24) := by rw [← hwf]; exact a1.setRow
      have hgSf : gS < wf.heap.size := LS.out.lt
      clear a1 a2 a3 hgS hbf KK RG
      go_wp2_with (first | (refine wpList_store_blk rfl 24 _ _ rfl gS (bys R) z32 24 rfl rfl A1.out H24r.out HLZr.out (bys_one' _) ?_; rw [hwf]) | (at_builtin; refine wpList_app_grown rfl _ _ 42 rfl 5 i0 Try.underlying42 HIN.out H0.out H1.out H2.out b wf.heap.size _ _ (pre20 I q ++ [128, 128] ++ D.take (32 * i)) R rfl KF.out.2.1 rfl (Rd.blk 32 HRL.out LS.out hgSf (by omega)) (by rw [HRL.out]; omega) (by rw [HEL.out, HRL.out]; omega) KF.out.2.2.1 ?_))
      intro v5 w5 hown5 hgr5
      have K5 : Hid (RPuAt w b n v5 (.slice (some ⟨gH, 0, none⟩) n cH) (pre20 I q ++ [128, 128] ++ D.take (32 * (i + 1))) D w5 ∧ Blk w5 g1 z32 24) := by
        obtain ⟨f1, f4, f5, f6⟩ := KF.out
        have hb5 : Below b wf w5 := Own.grown f4 hgr5 f5
        rw [take_hRow, HRE.out]
        exact ⟨⟨f1.other f4 hgr5, (by simpa only [List.append_assoc, List.cons_append, List.nil_append] using hown5), Nat.le_trans f5 hb5.size, f6.trans (hb5.mono hwb)⟩, F2.out.below hb5 g1b⟩
      clear hown5 hgr5 KF F2 LS hgSf A1 hwf
      go_wp2
      go_roundw
      case rel => exact ⟨i + 1, by omega, by go_num, K5⟩
      case measure => simp [intOf]; omega
    · have hiM : i = n := by omega
      subst hiM
      have zi : ¬ ((i : Int) < (i : Int)) := by omega
      have hall : D.take (32 * i) = D := List.take_of_length_le (by have := HDL.out; omega)
      have KL := Lib.hid KK.out.1
      have W2 := Lib.hid KK.out.2
      rw [hall] at KL HEL
      clear KK hall
      go_wp2_with fail
      refine (refSum_any _ _ _ KL.out.2.1.rd (by have := HEL.out; omega)).mono ?_
      rintro e w6 ⟨rfl, hb6⟩
      rw [HH.out]
      have V2 : Hid (Blk w6 g1 z32 24) := W2.out.below hb6 W2.out.lt
      have VB : Hid (Below w.heap.size w w6) := KL.out.2.2.2.trans (hb6.mono KL.out.2.2.2.size)
      clear hb6 W2 KL
      go_wp2_with (refine wpList_store_blk rfl 24 _ _ rfl g1 (bys (hpub (pre20 I q) D)) z32 24 rfl rfl V2.out H24.out HLZ.out (bys_one' _) ?_)
      refine bodyPost_ret (v := .agg (bys (hpub (pre20 I q) D)).toArray) ?_ rfl ?_
      · exact ret_blk rfl _ _ g1 24 _ rfl V2.out.setRow 32 5 tu24 H24.out
      · exact ⟨rfl, below_setRow' VB.out (by omega) _⟩
end Go.Proofs.Ytejeefkoalbcmaa

namespace Go.Proofs.Ytejeefkoalbcmaa
open Go.RowKit

theorem u78 : Try.prog.underlying 78 = some (.slice 24) := by kernel_rfl
theorem b24 : (Try.prog.info? 24).map (·.bytes) = some 32 := by kernel_rfl
theorem info24 : ∃ i, Try.prog.info? 24 = some i ∧ i.zero = some (.agg z32.toArray) ∧ i.size = 32 ∧ i.bytes = 32 := by
  have h1 := z24
  have h2 := s24
  have h3 := b24
  cases h : Try.prog.info? 24 with
  | none => rw [h] at h1; cases h1
  | some i =>
    rw [h] at h1 h2 h3
    exact ⟨i, rfl, by simpa using h1, by simpa using h2, by simpa using h3⟩
theorem fill_h0 (f : Nat → UInt8) : Instr.fill (fun i => some (i * 32, 32)) ((Array.range (1 * 32)).map (fun j => (Value.agg z32.toArray).cells[j % (Value.agg z32.toArray).cells.size]!)) [(0, .agg (bys ((List.range 32).map f)).toArray)] = some (bys ((List.range 32).map f)).toArray := by kernel_rfl
/-- A slice of one hash, built. -/
theorem wpList_bsH {w : World} {ops : Array Oper} {rest : List Oper} {o : Oper} {a : Act} {Q : Exit → Act → World → Prop} (hgd : o.guard = none) (x : Operand) (ho : o.op = .buildSlice 78 1 #[(0, x)])
    (R : List UInt8) (hR : R.length = 32) (hx : a.eval x = .agg (bys R).toArray) (N : Nat) (hN : w.heap.size = N)
    (h : wpList Try.prog ops Q rest (a.put o.dst (.slice (some ⟨N, 0, none⟩) 1 1)) (w.alloc (.cells (bys R).toArray 24))) : wpList Try.prog ops Q (o :: rest) a w := by
  subst hN
  obtain ⟨i, hi, hz, hsz, hby⟩ := info24
  refine wpList_buildSlice hgd 78 24 1 _ ho (bys R).toArray i (.agg z32.toArray) u78 hi hz (by rw [hsz]; decide) (by rw [hsz]; decide) ?_ h
  have e : ((#[(0, x)] : Array (Nat × Operand)).map fun (i, x) => (i, a.eval x)).toList = [(0, a.eval x)] := by simp
  rw [e, hx, hsz, list_as R 32 hR]
  exact fill_h0 _
/-- append of one hash onto hashes that are owned. -/
theorem wpList_appH {w : World} {ops : Array Oper} {rest : List Oper} {o : Oper} {a : Act} {Q : Exit → Act → World → Prop} (hgd : o.guard = none) (s x : Operand) (ho : o.op = .call { callee := .builtin .append, args := #[s, x], argTypes := #[78, 78] })
    (base : Nat) (v : Value) (n N : Nat) (l R : List UInt8) (hs : a.eval s = v) (hown : OwH w base v n l) (hx : a.eval x = .slice (some ⟨N, 0, none⟩) 1 1) (hR : R.length = 32) (hB : Blk w N (bys R) 24) (hn : n ≤ 1000000) (hbase : base ≤ w.heap.size)
    (h : ∀ v' w', OwH w' base v' (n + 1) (l ++ R) → Below base w w' → wpList Try.prog ops Q rest (a.put o.dst v') w') : wpList Try.prog ops Q (o :: rest) a w := by
  obtain ⟨i, hi, hz, hsz, hby⟩ := info24
  refine wpList_append_own w hgd s x 78 ho base 24 i (.agg z32.toArray) 32 32 u78 hi hz hsz hby rfl (by decide) v n (bys l) hs hown ⟨N, 0, none⟩ 1 1 (bys R) hx (by rw [bys_length, hR]) ?_ (bys_one R) (by unfold maxLen; omega) (by omega) hbase ?_
  · intro j u hu
    have hadd : (⟨N, 0, none⟩ : Addr).add j = ⟨N, j, none⟩ := by unfold Addr.add; split <;> simp_all
    rw [hadd]
    exact (hB.cell j).trans hu
  · intro v' w' h1 h2 _
    refine h v' w' ?_ ((Below.refl base w).grown h2 hbase fun k hk => (World.ownsRow.lt hown k hk).1)
    unfold OwH
    rw [bys_append]
    exact h1

set_option maxRecDepth 100000 in
set_option maxHeartbeats 1000000 in
theorem refPublic_no (I seed : List UInt8) (q : Nat) (z : Int) (w : World) (hI : I.length = 16) (hs : seed.length = 32) (hz : NoW z) :
    Calls Try.prog 22 #[.agg (kcs I q seed z).toArray] w (TwoD (.agg z32.toArray) (.int .i64 1) w) := by
  have HZ := Lib.hid hz
  have HI := Lib.hid hI
  have HS := Lib.hid hs
  clear hz hI hs
  go_enter Try.func22, Try.ntmps22
  go_wp2_with (refine wpList_box_blk rfl 32 _ rfl (kcs I q seed z) rfl ?_)
  intro v1 a1 a2 a3
  have A1 := Lib.hid a1
  have A2 := Lib.hid a2
  have A3 := Lib.hid a3
  clear a1 a2 a3
  go_wp2_with (refine wpList_alloc_blk rfl 24 rfl _ z24 ?_)
  intro v2 a1 a2 a3
  rw [A2.out] at a1 a2 a3 ⊢
  obtain ⟨g0, hg0⟩ : ∃ g, w.heap.size = g := ⟨_, rfl⟩
  obtain ⟨g1, hg1⟩ : ∃ g, g0 + 1 = g := ⟨_, rfl⟩
  have X1 : Hid (Blk v2 g0 (kcs I q seed z) 32) := by rw [← hg0]; exact A1.out.below a3 (by omega)
  have X2 : Hid (Blk v2 g1 z32 24) := by rw [← hg1, ← hg0]; exact a1
  have XB : Hid (Below w.heap.size w v2) := A3.out.trans (a3.mono (by omega))
  have hw0 : w.heap.size ≤ g0 := by omega
  have hg01 : g0 < g1 := by omega
  rw [hg0, hg1]
  have cw := (X1.out.cell 49).trans (kcs_z I seed q z HI.out HS.out)
  clear a1 a2 a3 A1 A2 A3 hg0 hg1
  go_wp2_with fail
  clear cw
  refine (many_no z _ HZ.out).mono ?_
  rintro e w1 ⟨rfl, nd, rfl⟩
  have Y2 : Hid (Blk (v2.drewN nd) g1 z32 24) := X2.out
  have YB : Hid (Below w.heap.size w (v2.drewN nd)) := Below.drewN' XB.out
  generalize v2.drewN nd = w1 at Y2 YB ⊢
  clear X1 X2 XB
  go_wp2_with (first | (refine wpList_store_blk rfl 24 _ _ rfl g1 z32 z32 24 rfl rfl Y2.out s24 rfl (bys_one' _) ?_) | (refine wpList_buildTo rfl 24 _ rfl (some 16) rfl z32.toArray (by kernel_rfl) ?_))
  refine bodyPost_ret (v := .tuple #[.agg z32.toArray, .int .i64 1]) ?_ rfl ?_
  · exact ret_blk2 rfl _ _ g1 24 z32 _ rfl rfl Y2.out.setRow 32 5 tu24 s24
  · exact ⟨rfl, below_setRow' YB.out (by omega) _⟩

/-- What the loop of the document's Public keeps. -/
def RPbAt (w : World) (I seed : List UInt8) (q k g0 g1 b i : Nat) (v : Value) (l : List UInt8) (wr : World) : Prop :=
  Blk wr g0 (kcs I q seed (k : Int)) 32 ∧ Blk wr g1 z32 24 ∧ OwH wr b v i l ∧ b ≤ wr.heap.size ∧ Below w.heap.size w wr
theorem RPbAt.below {w : World} {I seed : List UInt8} {q k g0 g1 b i : Nat} {v : Value} {l : List UInt8} {wr w' : World} (h : RPbAt w I seed q k g0 g1 b i v l wr) (hb : Below wr.heap.size wr w') : RPbAt w I seed q k g0 g1 b i v l w' := by
  obtain ⟨h1, h2, h4, h5, h6⟩ := h
  exact ⟨h1.below hb h1.lt, h2.below hb h2.lt, h4.below hb (Nat.le_refl _), Nat.le_trans h5 hb.size, h6.trans (hb.mono h6.size)⟩

set_option maxRecDepth 100000 in
set_option maxHeartbeats 2000000 in
theorem refPublic_yes (I seed : List UInt8) (q k : Nat) (w : World) (hI : I.length = 16) (hs : seed.length = 32) (hq : q < 4294967296) (hk : Wd k) :
    Calls Try.prog 22 #[.agg (kcs I q seed (k : Int)).toArray] w (TwoD (.agg (bys (pubL (pre20 I q) seed k)).toArray) (.int .i64 0) w) := by
  have HI := Lib.hid hI
  have HS := Lib.hid hs
  have HK := Lib.hid hk
  have HP := Lib.hid (pre20_length I q hI)
  have hm := mny_le k hk
  obtain ⟨M, hM⟩ : ∃ M, mny k = M := ⟨_, rfl⟩
  obtain ⟨G, hG⟩ : ∃ G, gr k = G := ⟨_, rfl⟩
  have hM0 : 0 < M := by rw [← hM]; rcases hk with rfl | rfl | rfl | rfl <;> decide
  have HME := Lib.hid hM
  have HGE := Lib.hid hG
  rw [hM] at hm
  have nM : ((M : Int) == 0) = false := by simp; omega
  have H32 : Hid ((Try.prog.info? 32).map (·.size) = some (kcs I q seed (k : Int)).length) := by show _ = _; rw [kcs_length I seed q _ hI hs]; exact s32
  have H24 : Hid ((Try.prog.info? 24).map (·.size) = some (bys (pubL (pre20 I q) seed k)).length) := by show _ = _; rw [bys_length]; unfold pubL; rw [hpub_length]; exact s24
  have HLZ : Hid (z32.length = (bys (pubL (pre20 I q) seed k)).length) := by show _ = _; rw [bys_length, z32_length]; unfold pubL; rw [hpub_length]
  obtain ⟨d32, hu32, hd32⟩ := row32
  have HU := Lib.hid hu32
  have HD := Lib.hid hd32
  clear hI hs hk hu32 hd32 hM hG
  go_enter Try.func22, Try.ntmps22
  go_wp2_with (refine wpList_box_blk rfl 32 _ rfl (kcs I q seed (k : Int)) rfl ?_)
  intro v1 a1 a2 a3
  have A1 := Lib.hid a1
  have A2 := Lib.hid a2
  have A3 := Lib.hid a3
  clear a1 a2 a3
  go_wp2_with (refine wpList_alloc_blk rfl 24 rfl _ z24 ?_)
  intro v2 a1 a2 a3
  rw [A2.out] at a1 a2 a3 ⊢
  obtain ⟨g0, hg0⟩ : ∃ g, w.heap.size = g := ⟨_, rfl⟩
  obtain ⟨g1, hg1⟩ : ∃ g, g0 + 1 = g := ⟨_, rfl⟩
  have X1 : Hid (Blk v2 g0 (kcs I q seed (k : Int)) 32) := by rw [← hg0]; exact A1.out.below a3 (by omega)
  have X2 : Hid (Blk v2 g1 z32 24) := by rw [← hg1, ← hg0]; exact a1
  have XB : Hid (Below w.heap.size w v2) := A3.out.trans (a3.mono (by omega))
  have hw0 : w.heap.size ≤ g0 := by omega
  have hg01 : g0 < g1 := by omega
  rw [hg0, hg1]
  have cw := (X1.out.cell 49).trans (kcs_z I seed q (k : Int) HI.out HS.out)
  clear a1 a2 a3 A1 A2 A3 hg0 hg1
  go_wp2_with fail
  clear cw
  refine (many_yes k _ HK.out).mono ?_
  rintro e w1 ⟨rfl, nd, rfl⟩
  rw [HME.out]
  have Y1 : Hid (Blk (v2.drewN nd) g0 (kcs I q seed (k : Int)) 32) := X1.out
  have Y2 : Hid (Blk (v2.drewN nd) g1 z32 24) := X2.out
  have YB : Hid (Below w.heap.size w (v2.drewN nd)) := Below.drewN' XB.out
  generalize v2.drewN nd = w1 at Y1 Y2 YB ⊢
  obtain ⟨b, hbE⟩ : ∃ b, w1.heap.size = b := ⟨_, rfl⟩
  have K0 : Hid (RPbAt w I seed q k g0 g1 b 0 (.slice (some ⟨b, 0, none⟩) 0 0) (rowsTo (endF (pre20 I q) seed k) 0) (w1.alloc (.cells #[] 24))) := by
    refine ⟨Y1.out.alloc _, Y2.out.alloc _, ?_, by simp; omega, (YB.out.alloc YB.out.size _)⟩
    rw [← hbE]
    exact World.ownsRow_made (base := w1.heap.size) (e := 24) (size := 32) w1 #[] 0 (Nat.le_refl _) (by unfold maxLen; omega) rfl
  have g0b : g0 < b := by rw [← hbE]; exact Y1.out.lt
  have g1b : g1 < b := by rw [← hbE]; exact Y2.out.lt
  have hwb : w.heap.size ≤ b := by omega
  clear X1 X2 XB Y1 Y2 YB
  go_wp2
  clear hbE
  generalize w1.alloc (.cells #[] 24) = wA at K0 ⊢
  go_loopw [5, 6] (fun v x wr => ∃ i : Nat, i ≤ M ∧ x = .int .i64 (i : Int) ∧ Hid (RPbAt w I seed q k g0 g1 b i v (rowsTo (endF (pre20 I q) seed k) i) wr)) (fun _ x _ => M - (intOf x).toNat)
  case atStart => exact ⟨0, by omega, rfl, K0⟩
  case round =>
    clear K0
    obtain ⟨i, hi, rfl, KK⟩ := hrel
    by_cases hi2 : i < M
    · have zi : (i : Int) < (M : Int) := by omega
      have hiM : Hid (i < mny k) := by show _ < _; rw [HME.out]; exact hi2
      obtain ⟨S, hS⟩ : ∃ S, hsec (pre20 I q) seed i = S := ⟨_, rfl⟩
      have hSl : S.length = 32 := by rw [← hS]; exact hsec_length _ _ _
      have HSE := Lib.hid hS
      have HSL := Lib.hid hSl
      have H24s : Hid ((Try.prog.info? 24).map (·.size) = some (bys S).length) := by show _ = _; rw [bys_length, hSl]; exact s24
      have HLZs : Hid (z32.length = (bys S).length) := by show _ = _; rw [bys_length, hSl, z32_length]
      obtain ⟨E, hE⟩ : ∃ E, endF (pre20 I q) seed k i = E := ⟨_, rfl⟩
      have hEl : E.length = 32 := by rw [← hE]; exact endF_length _ _ _ _
      have HEE := Lib.hid hE
      have HEL := Lib.hid hEl
      have H24e : Hid ((Try.prog.info? 24).map (·.size) = some (bys E).length) := by show _ = _; rw [bys_length, hEl]; exact s24
      have HLZe : Hid (z32.length = (bys E).length) := by show _ = _; rw [bys_length, hEl, z32_length]
      clear hS hSl hE hEl
      go_wp2_with (refine wpList_load_blkU rfl 32 _ rfl g0 rfl (kcs I q seed (k : Int)) 32 KK.out.1 d32 HU.out HD.out H32.out ?_)
      refine (refSecret_yes I seed q k i _ HI.out HS.out hq HK.out hiM.out).mono ?_
      rintro e wa ⟨rfl, hb⟩
      rw [HSE.out]
      have KA := Lib.hid (KK.out.below hb)
      clear hb KK
      go_wp2_with (refine wpList_alloc_blk rfl 24 rfl _ z24 ?_)
      intro wb a1 a2 a3
      obtain ⟨gS, hgS⟩ : ∃ g, wa.heap.size = g := ⟨_, rfl⟩
      rw [hgS] at a1 a2 a3 ⊢
      have A1 := Lib.hid a1
      obtain ⟨wf, hwf⟩ : ∃ t, wb.setRow gS (bys S).toArray = t := ⟨_, rfl⟩
      have hbf : Below wa.heap.size wa wf := by rw [← hwf, hgS]; exact below_setRow' a3 (Nat.le_refl _) _
      have KF := Lib.hid (KA.out.below hbf)
      have LS : Hid (Blk wf gS (bys S) 24) := by rw [← hwf]; exact a1.setRow
      clear a1 a2 a3 hgS hbf KA
      go_wp2_with (first | (refine wpList_store_blk rfl 24 _ _ rfl gS (bys S) z32 24 rfl rfl A1.out H24s.out HLZs.out (bys_one' _) ?_; rw [hwf]))
      clear A1 hwf
      refine wp_region_relyG 13 0 (LayG z32 24 wf.heap.size (bys E)) (fun x => ⟨#[Value.agg (kcs I q seed ↑k).toArray, Value.pointer (some { block := g0, off := 0 }), Value.pointer (some { block := g1, off := 0 }), Value.int IntKind.i64 0, Value.int IntKind.i64 ↑M, u5, Value.int IntKind.i64 ↑i, Value.pointer (some { block := gS, off := 0 }), Value.int IntKind.i64 0, x 10, x 12, Value.pointer (some { block := g0, off := 49 }), Value.int IntKind.i64 ↑k, Value.int IntKind.i64 ↑M, Value.int IntKind.i64 ↑M, Value.bool false, undef, Value.slice (some { block := b, off := 0 }) 0 0, Value.int IntKind.i64 ↑i, Value.int IntKind.i64 ↑M, Value.bool true, u21, u22, Value.tuple #[Value.agg (bys S).toArray, Value.int IntKind.i64 0], Value.agg (kcs I q seed ↑k).toArray, Value.int IntKind.i64 ↑i, Value.tuple #[Value.agg (bys S).toArray, Value.int IntKind.i64 0], Value.agg (bys S).toArray, Value.int IntKind.i64 0, x 7, x 0, x 1, x 2, x 3, x 4, x 5, x 6, x 8, x 9, u39, u40, u41, u42, undef, undef, undef], []⟩) (fun jj => ([(fun x w => eqV (.agg (kcs I q seed (k : Int)).toArray) (x 0) w), (fun x w => eqV (.int .i64 (i : Int)) (x 1) w), (fun x w => eqV (.pointer (some ⟨g0, 49, none⟩)) (x 2) w), (fun x w => eqV (.int .i64 (k : Int)) (x 3) w), (fun x w => (eqV (.int .i64 (G : Int))) (x 4) w), (fun x w => eqV (.agg (bys S).toArray) (x 5) w), (fun x w => (eqV (.tuple #[.agg (bys E).toArray, .int .i64 0])) (x 6) w), (fun x w => eqV (.tuple #[.agg (bys E).toArray, .int .i64 0]) (x 7) w), (fun x w => eqV (.agg (bys E).toArray) (x 8) w), (fun x w => eqV (.int .i64 0) (x 9) w), (fun x w => (NewG z32 24 wf.heap.size (bys E)) (x 10) w), (fun x w => ∃ g, x 10 = .pointer (some ⟨g, 0, none⟩) ∧ wf.heap.size ≤ g ∧ Blk w g (bys E) 24), (fun x w => eqV (.int .i64 0) (x 12) w)] : List ((Nat → Value) → World → Prop)).getD jj (fun _ _ => True)) rfl ⟨fun kk => [_, _, _, _, _, _, _, _, _, _, _, undef, _].getD kk undef, rfl⟩ (LayG.drew _ _ _ _ _) (fun _ _ _ h k => h.trans k) (by kernel_rfl) (by kernel_rfl) ?steps ?fin
      case steps =>
        refine StepsG.val 0 (.agg (kcs I q seed (k : Int)).toArray) (fun w => LayG.refl _ _ _ _ w) rfl (fun _ _ => rfl) rfl rfl (fun x w9 hb hd => ?_) ?_
        · exact run_load_blkU 32 (.tmp 1) rfl g0 rfl (kcs I q seed (k : Int)) 32 (KF.out.1.below hb.below KF.out.1.lt) d32 HU.out HD.out H32.out
        refine StepsG.val 1 (.int .i64 (i : Int)) (fun w => LayG.refl _ _ _ _ w) rfl (fun _ _ => rfl) rfl rfl (fun x w9 hb hd => ?_) ?_
        · first | (go_simp; done) | (go_simp; rfl)
        refine StepsG.val 2 (.pointer (some ⟨g0, 49, none⟩)) (fun w => LayG.refl _ _ _ _ w) rfl (fun _ _ => rfl) rfl rfl (fun x w9 hb hd => ?_) ?_
        · first | (go_simp; done) | (go_simp; rfl)
        refine StepsG.val 3 (.int .i64 (k : Int)) (fun w => LayG.refl _ _ _ _ w) rfl (fun _ _ => rfl) rfl rfl (fun x w9 hb hd => ?_) ?_
        · have h2 : x 2 = .pointer (some ⟨g0, 49, none⟩) := hd 2 (by kernel_rfl)
          have c := ((KF.out.1.below hb.below KF.out.1.lt).cell 49).trans (kcs_z I seed q (k : Int) HI.out HS.out)
          rw [h2]
          first | (go_simp; done) | (go_simp; rfl)
        refine StepsG.cons 4 (eqV (.int .i64 (G : Int))) rfl (fun _ _ _ h hb => h) (fun _ _ => rfl) rfl rfl (fun x w9 hb hd K hK => ?_) ?_
        · have h3 : Hid (x 3 = .int .i64 (k : Int)) := hd 3 (by kernel_rfl)
          go_simp
          refine calls_args (args2 := #[.int .i64 (k : Int)]) (by rw [h3.out]) ?_
          refine (last_any k _ HK.out).mono ?_
          rintro e w2 ⟨rfl, rfl⟩
          rw [HGE.out]
          exact hK.out _ _ (LayG.refl _ _ _ _ _) rfl
        refine StepsG.val 5 (.agg (bys S).toArray) (fun w => LayG.refl _ _ _ _ w) rfl (fun _ _ => rfl) rfl rfl (fun x w9 hb hd => ?_) ?_
        · exact run_load_blk 24 (.tmp 7) rfl gS rfl (bys S) 24 (LS.out.below hb.below LS.out.lt) 32 5 tu24 H24s.out
        refine StepsG.cons 6 (eqV (.tuple #[.agg (bys E).toArray, .int .i64 0])) rfl (fun _ _ _ h hb => h) (fun _ _ => rfl) rfl rfl (fun x w9 hb hd K hK => ?_) ?_
        · have h0 : Hid (x 0 = .agg (kcs I q seed (k : Int)).toArray) := hd 0 (by kernel_rfl)
          have h1 : Hid (x 1 = .int .i64 (i : Int)) := hd 1 (by kernel_rfl)
          have h4 : Hid (x 4 = .int .i64 (G : Int)) := hd 4 (by kernel_rfl)
          have h5 : Hid (x 5 = .agg (bys S).toArray) := hd 5 (by kernel_rfl)
          go_simp
          refine calls_args (args2 := #[.agg (kcs I q seed (k : Int)).toArray, .int .i64 (i : Int), .int .i64 ((0 : Nat) : Int), .int .i64 ((0 + G : Nat) : Int), .agg (bys S).toArray]) (by rw [h0.out, h1.out, h4.out, h5.out, Nat.zero_add]; rfl) ?_
          refine (refChain_yes I seed S q k i 0 G _ HI.out HS.out HSL.out hq HK.out hiM.out (by rw [Nat.zero_add, HGE.out]; exact Nat.le_refl _)).mono ?_
          rintro e w2 ⟨rfl, hb2⟩
          refine hK.out _ _ (LayG.grow hb2 hb.below.size) ?_
          rw [← HEE.out]
          unfold endF
          rw [HGE.out, HSE.out]
          rfl
        refine StepsG.val 7 (.tuple #[.agg (bys E).toArray, .int .i64 0]) (fun w => LayG.refl _ _ _ _ w) rfl (fun _ _ => rfl) rfl rfl (fun x w9 hb hd => ?_) ?_
        · have h6 : x 6 = .tuple #[.agg (bys E).toArray, .int .i64 0] := hd 6 (by kernel_rfl)
          rw [h6]
          first | (go_simp; done) | (go_simp; rfl)
        refine StepsG.val 8 (.agg (bys E).toArray) (fun w => LayG.refl _ _ _ _ w) rfl (fun _ _ => rfl) rfl rfl (fun x w9 hb hd => ?_) ?_
        · have h7 : x 7 = .tuple #[.agg (bys E).toArray, .int .i64 0] := hd 7 (by kernel_rfl)
          rw [h7]
          first | (go_simp; done) | (go_simp; rfl)
        refine StepsG.val 9 (.int .i64 0) (fun w => LayG.refl _ _ _ _ w) rfl (fun _ _ => rfl) rfl rfl (fun x w9 hb hd => ?_) ?_
        · have h7 : x 7 = .tuple #[.agg (bys E).toArray, .int .i64 0] := hd 7 (by kernel_rfl)
          rw [h7]
          first | (go_simp; done) | (go_simp; rfl)
        refine StepsG.cons 10 (NewG z32 24 wf.heap.size (bys E)) rfl (fun _ _ _ h hb => NewG.keep h hb) (fun _ _ => rfl) rfl rfl (fun x w9 hb hd K hK => ?_) ?_
        · refine wp_of_list rfl (wpList_alloc_blk rfl 24 rfl _ z24 ?_)
          intro w2 c1 c2 c3
          exact hK.out _ _ (LayG.grow c3 hb.below.size) ⟨_, rfl, hb.below.size, .inl c1⟩
        refine StepsG.consX 11 (fun x i v w w' hi hdp h hb => by obtain ⟨g, h1, h2, h3⟩ := h; exact ⟨g, by rw [upd_ne _ _ _ _ (fun e => hdp (by rw [← e]; decide))]; exact h1, h2, hb.done g h3⟩) (fun _ _ => rfl) rfl rfl (fun x w9 hb hd K hK => ?_) ?_
        · have h8 : Hid (x 8 = .agg (bys E).toArray) := hd 8 (by kernel_rfl)
          have h10 : NewG z32 24 wf.heap.size (bys E) (x 10) w9 := hd 10 (by kernel_rfl)
          obtain ⟨g, e10, hgb, hor⟩ := h10
          rcases hor with hz | hz
          · refine wp_store_blk 24 (.tmp 9) (.tmp 37) rfl g (bys E) z32 24 e10 h8.out hz H24e.out HLZe.out (bys_one' _) ?_
            exact hK.out undef _ (LayG.lay hgb (.inl hz)) ⟨g, by rw [upd_ne _ _ _ _ (by omega)]; exact e10, hgb, hz.setRow⟩
          · refine wp_store_blk 24 (.tmp 9) (.tmp 37) rfl g (bys E) (bys E) 24 e10 h8.out hz H24e.out rfl (bys_one' _) ?_
            exact hK.out undef _ (LayG.lay hgb (.inr hz)) ⟨g, by rw [upd_ne _ _ _ _ (by omega)]; exact e10, hgb, hz.setRow⟩
        refine StepsG.val 12 (.int .i64 0) (fun w => LayG.refl _ _ _ _ w) rfl (fun _ _ => rfl) rfl rfl (fun x w9 hb hd => ?_) ?_
        · have h9 : x 9 = .int .i64 0 := hd 9 (by kernel_rfl)
          rw [h9]
          first | (go_simp; done) | (go_simp; rfl)
        exact StepsG.done
      case fin =>
        intro x w9 hb hd
        have f12 : x 12 = .int .i64 0 := hd 12 (by omega)
        obtain ⟨gE, e10, hgb, hz⟩ : ∃ g, x 10 = .pointer (some ⟨g, 0, none⟩) ∧ wf.heap.size ≤ g ∧ Blk w9 g (bys E) 24 := hd 11 (by omega)
        refine AnyTill.any (S := fun _ => True) (m := 13) _ _ _ _ ?_
        refine AnyTill.done (by kernel_rfl) ?_
        refine NoPanic.normal ?_
        rw [f12, e10]
        generalize x 0 = p0
        generalize x 1 = p1
        generalize x 2 = p2
        generalize x 3 = p3
        generalize x 4 = p4
        generalize x 5 = p5
        generalize x 6 = p6
        generalize x 7 = p7
        generalize x 8 = p8
        generalize x 9 = p9
        have KG := Lib.hid (KF.out.below hb.below)
        have LE : Hid (Blk w9 gE (bys E) 24) := hz
        clear hd f12 e10 hgb hz hb KF LS x
        obtain ⟨N, hN⟩ : ∃ N, w9.heap.size = N := ⟨_, rfl⟩
        have KH : Hid (RPbAt w I seed q k g0 g1 b i u5 (rowsTo (endF (pre20 I q) seed k) i) (w9.alloc (.cells (bys E).toArray 24))) := KG.out.below ((Below.refl _ _).alloc (Nat.le_refl _) _)
        have LN : Hid (Blk (w9.alloc (.cells (bys E).toArray 24)) N (bys E) 24) := by rw [← hN]; exact heap_alloc_new w9 _
        have hbH : b ≤ (w9.alloc (.cells (bys E).toArray 24)).heap.size := KH.out.2.2.2.1
        go_wp2_with (first | (refine wpList_load_blk rfl 24 _ rfl gE rfl (bys E) 24 LE.out 32 5 tu24 H24e.out ?_) | (refine wpList_bsH rfl _ rfl E HEL.out rfl N hN ?_) | (at_builtin; refine wpList_appH rfl _ _ rfl b u5 i N (rowsTo (endF (pre20 I q) seed k) i) E rfl KH.out.2.2.1 rfl HEL.out LN.out (by omega) hbH ?_))
        intro v5 w5 hown5 hb5
        have K5 : Hid (RPbAt w I seed q k g0 g1 b (i + 1) v5 (rowsTo (endF (pre20 I q) seed k) (i + 1)) w5) := by
          obtain ⟨f1, f2, f4, f5, f6⟩ := KH.out
          rw [rowsTo_succ, HEE.out]
          exact ⟨f1.below hb5 g0b, f2.below hb5 g1b, hown5, Nat.le_trans f5 hb5.size, f6.trans (hb5.mono hwb)⟩
        clear hown5 hb5 KG KH LE LN hbH
        go_wp2
        go_roundw
        case rel => exact ⟨i + 1, by omega, by go_num, K5⟩
        case measure => simp [intOf]; omega
    · have hiM : i = M := by omega
      subst hiM
      have zi : ¬ ((i : Int) < (i : Int)) := by omega
      have hpE : Hid (hpub (pre20 I q) (rowsTo (endF (pre20 I q) seed k) i) = pubL (pre20 I q) seed k) := by show _ = _; unfold pubL; rw [HME.out]
      go_wp2_with (refine wpList_load_blkU rfl 32 _ rfl g0 rfl (kcs I q seed (k : Int)) 32 KK.out.1 d32 HU.out HD.out H32.out ?_)
      refine (refPub_any I seed _ q i _ _ _ HI.out HS.out hq hM0 (by omega) (KK.out.2.2.1.base (Nat.zero_le _))).mono ?_
      rintro e w6 ⟨rfl, hb6⟩
      rw [hpE.out]
      have V2 : Hid (Blk w6 g1 z32 24) := KK.out.2.1.below hb6 KK.out.2.1.lt
      have VB : Hid (Below w.heap.size w w6) := KK.out.2.2.2.2.trans (hb6.mono KK.out.2.2.2.2.size)
      clear hb6 KK
      go_wp2_with (refine wpList_store_blk rfl 24 _ _ rfl g1 (bys (pubL (pre20 I q) seed k)) z32 24 rfl rfl V2.out H24.out HLZ.out (bys_one' _) ?_)
      refine bodyPost_ret (v := .tuple #[.agg (bys (pubL (pre20 I q) seed k)).toArray, .int .i64 0]) ?_ rfl ?_
      · exact ret_blk2 rfl _ _ g1 24 _ _ rfl rfl V2.out.setRow 32 5 tu24 H24.out
      · exact ⟨rfl, below_setRow' VB.out (by omega) _⟩
end Go.Proofs.Ytejeefkoalbcmaa

namespace Go.Proofs.Ytejeefkoalbcmaa
open Go.RowKit

theorem public_both (I seed : List UInt8) (q : Nat) (z : Int) (hI : I.length = 16) (hs : seed.length = 32) (hq : q < 4294967296) :
    ∃ (r : List UInt8) (n : Int), r.length = 32 ∧ (∀ w, Calls Try.prog 21 #[.agg (kcs I q seed z).toArray] w (TwoD (.agg (bys r).toArray) (.int .i64 n) w)) ∧ (∀ w, Calls Try.prog 22 #[.agg (kcs I q seed z).toArray] w (TwoD (.agg (bys r).toArray) (.int .i64 n) w)) := by
  rcases width_or z with ⟨k, hk, rfl⟩ | hz
  · exact ⟨pubL (pre20 I q) seed k, 0, by unfold pubL; exact hpub_length _ _, fun w => publicX_yes I seed q k w hI hs hq hk, fun w => refPublic_yes I seed q k w hI hs hq hk⟩
  · exact ⟨List.replicate 32 0, 1, by simp, fun w => publicX_no I seed q z w hI hs hq hz, fun w => refPublic_no I seed q z w hI hs hz⟩

set_option maxRecDepth 100000 in
set_option maxHeartbeats 2000000 in
theorem public_all (I seed : List UInt8) (q : Nat) (z : Int) (w : World) (hI : I.length = 16) (hs : seed.length = 32) (hq : q < 4294967296) :
    Calls Try.prog 5 #[.agg (kcs I q seed z).toArray] w (One (.bool true) w) := by
  obtain ⟨r, en, hr, h21, h22⟩ := public_both I seed q z hI hs hq
  have S21 := Lib.hid h21
  have S22 := Lib.hid h22
  have HR := Lib.hid hr
  have HI := Lib.hid hI
  have HS := Lib.hid hs
  have H26 : Hid ((Try.prog.info? 26).map (·.size) = some (kcs I q seed z).length) := by show _ = _; rw [kcs_length I seed q _ hI hs]; exact s26
  have H24 : Hid ((Try.prog.info? 24).map (·.size) = some (bys r).length) := by show _ = _; rw [bys_length, hr]; exact s24
  have HZ : Hid (z32.length = (bys r).length) := by show _ = _; rw [bys_length, hr, z32_length]
  obtain ⟨d26, hu26, hd26⟩ := row26
  have HU := Lib.hid hu26
  have HD := Lib.hid hd26
  clear hI hs hu26 hd26 h21 h22 hr
  go_enter Try.func5, Try.ntmps5
  go_wp2_with (refine wpList_box_blk rfl 26 _ rfl (kcs I q seed z) rfl ?_)
  intro v1 a1 a2 a3
  obtain ⟨g0, hg0⟩ : ∃ g, w.heap.size = g := ⟨_, rfl⟩
  rw [hg0] at a1 a2 a3 ⊢
  have A1 := Lib.hid a1
  have A3 : Hid (Below w.heap.size w v1) := by rw [hg0]; exact a3
  have hw0 : w.heap.size ≤ g0 := by omega
  clear a1 a2 a3 hg0
  go_wp2_with (refine wpList_load_blkU rfl 26 _ rfl g0 rfl (kcs I q seed z) 26 A1.out d26 HU.out HD.out H26.out ?_)
  refine (S21.out _).mono ?_
  rintro e w1 ⟨rfl, hb⟩
  have B1 : Hid (Blk w1 g0 (kcs I q seed z) 26) := A1.out.below hb A1.out.lt
  have BB : Hid (Below w.heap.size w w1) := A3.out.trans (hb.mono A3.out.size)
  clear hb A1 A3
  go_wp2_with (refine wpList_alloc_blk rfl 24 rfl _ z24 ?_)
  intro w2 a1 a2 a3
  obtain ⟨h1, hh⟩ : ∃ g, w1.heap.size = g := ⟨_, rfl⟩
  rw [hh] at a1 a2 a3 ⊢
  have AA := Lib.hid a1
  obtain ⟨t1, ht⟩ : ∃ t, w2.setRow h1 (bys r).toArray = t := ⟨_, rfl⟩
  have hbf : Below w1.heap.size w1 t1 := by rw [← ht, hh]; exact below_setRow' a3 (Nat.le_refl _) _
  have C1 : Hid (Blk t1 g0 (kcs I q seed z) 26) := B1.out.below hbf B1.out.lt
  have C2 : Hid (Blk t1 h1 (bys r) 24) := by rw [← ht]; exact a1.setRow
  have CB : Hid (Below w.heap.size w t1) := BB.out.trans (hbf.mono BB.out.size)
  clear a1 a2 a3 hh hbf B1 BB
  go_wp2_with (first | (refine wpList_store_blk rfl 24 _ _ rfl h1 (bys r) z32 24 rfl rfl AA.out H24.out HZ.out (bys_one' _) ?_; rw [ht]) | (refine wpList_load_blkU rfl 26 _ rfl g0 rfl (kcs I q seed z) 26 C1.out d26 HU.out HD.out H26.out ?_))
  clear AA ht
  refine (plain_any I seed q z _ HI.out HS.out).mono ?_
  rintro e w3 ⟨rfl, hb⟩
  have D2 : Hid (Blk w3 h1 (bys r) 24) := C2.out.below hb C2.out.lt
  have DB : Hid (Below w.heap.size w w3) := CB.out.trans (hb.mono CB.out.size)
  clear hb C1 C2 CB
  go_wp2_with fail
  refine (S22.out _).mono ?_
  rintro e w4 ⟨rfl, hb⟩
  have E2 : Hid (Blk w4 h1 (bys r) 24) := D2.out.below hb D2.out.lt
  have EB : Hid (Below w.heap.size w w4) := DB.out.trans (hb.mono DB.out.size)
  clear hb D2 DB
  go_wp2_with (refine wpList_alloc_blk rfl 24 rfl _ z24 ?_)
  intro w5 a1 a2 a3
  obtain ⟨h2, hh⟩ : ∃ g, w4.heap.size = g := ⟨_, rfl⟩
  rw [hh] at a1 a2 a3 ⊢
  have AA := Lib.hid a1
  obtain ⟨t2, ht⟩ : ∃ t, w5.setRow h2 (bys r).toArray = t := ⟨_, rfl⟩
  have hbf : Below w4.heap.size w4 t2 := by rw [← ht, hh]; exact below_setRow' a3 (Nat.le_refl _) _
  have F2 : Hid (Blk t2 h1 (bys r) 24) := E2.out.below hbf E2.out.lt
  have F3 : Hid (Blk t2 h2 (bys r) 24) := by rw [← ht]; exact a1.setRow
  have FB : Hid (Below w.heap.size w t2) := EB.out.trans (hbf.mono EB.out.size)
  clear a1 a2 a3 hh hbf E2 EB
  go_wp2_with (first | (refine wpList_store_blk rfl 24 _ _ rfl h2 (bys r) z32 24 rfl rfl AA.out H24.out HZ.out (bys_one' _) ?_; rw [ht]))
  clear AA ht
  refine (alive_any _).mono ?_
  rintro e u ⟨rfl, hb⟩
  have V2 : Hid (Blk u h1 (bys r) 24) := F2.out.below hb F2.out.lt
  have V3 : Hid (Blk u h2 (bys r) 24) := F3.out.below hb F3.out.lt
  have VB : Hid (Below w.heap.size w u) := FB.out.trans (hb.mono FB.out.size)
  clear hb F2 F3 FB
  have heq1 := eq24 r HR.out u
  go_wp2_with (first | (refine wpList_load_blkG 24 _ rfl h1 rfl (bys r) 24 V2.out 32 5 tu24 H24.out (by rfl) ?_) | (refine wpList_load_blkG 24 _ rfl h2 rfl (bys r) 24 V3.out 32 5 tu24 H24.out (by rfl) ?_))
  go_ret
  exact ⟨rfl, VB.out⟩
end Go.Proofs.Ytejeefkoalbcmaa
