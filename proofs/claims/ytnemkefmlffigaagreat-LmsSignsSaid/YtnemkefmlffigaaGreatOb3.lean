/-
  Write of an object: behind it the object holds the bytes that it held and those that are written; nothing else that was there changes.
-/
import Derived.Test.YtnemkefmlffigaaGreatOb2
namespace Go.Proofs.YtnemkefmlffigaaGreat
open Go.RowKit

/-- What Write leaves. -/
def Wrote (g : Nat) (bs : List UInt8) (w : World) (e : Ending) (w' : World) : Prop := e = .returned (.tuple #[]) ∧ Obj w' g bs ∧ But g w w'

theorem Obj.lt {w : World} {g : Nat} {bs : List UInt8} (h : Obj w g bs) : g < w.heap.size := by obtain ⟨st, left, hb, _⟩ := h; exact hb.lt
theorem Rd.tail {B : Nat} {w : World} {v : Value} {l : List UInt8} (h : Rd B w v l) : ∃ A c, v = .slice A l.length c := by obtain ⟨A, c, hv, _⟩ := h; exact ⟨A, c, hv⟩

theorem tu59 : Tryz.prog.underlying 144 = some (.array 64 5) := by kernel_rfl
theorem s5 : (Tryz.prog.info? 5).map (·.size) = some 1 := by kernel_rfl
/-- What is left from place k on. -/
theorem run_sliceFrom (g k : Nat) (hk : k < 64) (w : World) : (Instr.sliceAt 144 (.pointer (some ⟨g, 8, none⟩)) (some (.int .i64 (k : Int))) none none).run Tryz.prog w = .ok (.slice (some ⟨g, 8 + k, none⟩) (64 - k) (64 - k)) w := by
  have h2 : k ≤ 64 := by omega
  have h3 : ¬ 64 = k := by omega
  simp [Instr.sliceAt, run_underlying tu59, Instr.sureAddr, Instr.sliceBounds, Instr.sliceBound, asIntOf, h2, Sem.run_bind, Result.andThen, h3, Addr.add_mid]

/-- Bytes that are read are no words of a state. -/
theorem Rd.setState {B g n : Nat} {w : World} {v : Value} {l : List UInt8} {st : List Nat} {left : List UInt8} {t : TypeId} (h : Rd B w v l) (hb : Blk w g (ocs st left n) t) (h8 : st.length = 8) (vs : List Value) (hvs : vs.length = 8) : Rd B (w.setCells g 0 vs) v l := by
  obtain ⟨A, c, hv, hc, hm, hn, hr⟩ := h
  refine ⟨A, c, hv, hc, hm, hn, fun a ha => ⟨(hr a ha).1, fun j hj => ?_⟩⟩
  have hcell := (hr a ha).2 j hj
  rw [World.cell?_setCells_out g vs 0 w (a.add j) (fun hbk hsp => ?_)]
  · exact hcell
  · right
    rcases Nat.lt_or_ge (a.add j).off 8 with h' | h'
    · exfalso
      have e : a.add j = ⟨g, (a.add j).off, none⟩ := by
        cases hx : a.add j with
        | mk b o s => rw [hx] at hbk hsp; simp only at hbk hsp; rw [hbk, hsp]
      rw [e, hb.cell] at hcell
      unfold ocs at hcell
      rw [List.getElem?_append_left (by rw [ws_length, h8]; exact h'), ws_at st _ (by rw [h8]; exact h')] at hcell
      cases hcell
    · rw [hvs]; omega
theorem Blk.there {w : World} {g : Nat} {cs : List Value} {t : TypeId} (h : Blk w g cs t) (n : Nat) (hn : n ≤ cs.length) : w.there g 0 n := fun j hj => by
  rw [Nat.zero_add, h.cell, h.frozen, List.getElem?_eq_getElem (by omega)]
  exact ⟨rfl, rfl⟩
/-- A new state is laid into the object. -/
theorem wp_store_state {o : Oper} {a : Act} {w : World} {K : Act → World → Prop} {Q : Exit → Act → World → Prop} (x y : Operand) (ho : o.op = .store 125 x y) (g n : Nat) (st st' : List Nat) (left : List UInt8) (hx : a.eval x = .pointer (some ⟨g, 0, none⟩)) (hy : a.eval y = .agg (ws st').toArray)
    (hb : Blk w g (ocs st left n) 146) (h8 : st.length = 8) (h8' : st'.length = 8) (h64 : left.length = 64)
    (h : Blk (w.setCells g 0 (ws st')) g (ocs st' left n) 146 → K (a.put o.dst undef) (w.setCells g 0 (ws st'))) : o.wp Tryz.prog a w K Q := by
  have hl : (ws st').length = 8 := by rw [ws_length, h8']
  refine wp_store_mid 125 x y ho g 0 (ws st').toArray hx hy (by simpa [hl] using hb.there 8 (by rw [ocs_length _ _ _ h8 h64]; omega)) (by simpa [hl] using s33) (ws_one _) ?_
  have hs := Blk.setCells (ws st') 0 hb (by rw [hl, ocs_length _ _ _ h8 h64]; omega)
  rw [hl] at hs
  simp only [List.take_zero, List.nil_append, Nat.zero_add] at hs
  rw [ocs_state st st' left n h8] at hs
  simpa using h hs

set_option maxHeartbeats 2000000 in
set_option maxRecDepth 100000 in
theorem write_any (g : Nat) (bs : List UInt8) (v : Value) (l : List UInt8) (w : World) (h : Obj w g bs) (hr : Rd w.heap.size w v l) (hap : Apart g v) (hlen : bs.length + l.length ≤ 1000000) :
    Calls Tryz.prog 98 #[.pointer (some ⟨g, 0, none⟩), v] w (Wrote g (bs ++ l) w) := by
  obtain ⟨st, left, hb, hh⟩ := h
  have hglt := hb.lt
  have HR := Lib.hid hr
  have HAP := Lib.hid hap
  obtain ⟨A, c, rfl, hc, hm, hn, hcell⟩ := hr
  have h8 := hh.st8
  have hl64 := hh.1
  have hcell72 := (hb.cell 72).trans (ocs_num st left bs.length h8 hl64)
  have hfr := hb.frozen 72
  obtain ⟨n, hnn⟩ : ∃ n, bs.length = n := ⟨_, rfl⟩
  obtain ⟨k, hk⟩ : ∃ k, n % 64 = k := ⟨_, rfl⟩
  have hk64 : k < 64 := by omega
  have eK : (n : Int) % 64 = (k : Int) := by omega
  have HB := Lib.hid hb
  have HH := Lib.hid hh
  have HNN := Lib.hid hnn
  have HKK := Lib.hid hk
  have H8 := Lib.hid h8
  have H64 := Lib.hid hl64
  rw [hnn] at hcell72 hlen
  have hkne : ¬ (64 : Nat) = k := by omega
  clear hb hh hcell hn hnn hk hap h8 hl64
  unfold maxLen at hm
  have hsl := run_sliceFrom g k hk64 (w.setCell ⟨g, 72, none⟩ (.int .i64 ((n : Int) + (l.length : Int))))
  have K1 : Hid (Blk (w.setCell ⟨g, 72, none⟩ (.int .i64 ((n : Int) + (l.length : Int)))) g (ocs st left (n + l.length)) 146) := by
    have h := HB.out.set 72 (.int .i64 ((n + l.length : Nat) : Int))
    rw [ocs_setNum st left _ _ H8.out H64.out] at h
    have e : ((n + l.length : Nat) : Int) = (n : Int) + (l.length : Int) := by omega
    rw [e] at h
    exact h
  have B1 : Hid (But g w (w.setCell ⟨g, 72, none⟩ (.int .i64 ((n : Int) + (l.length : Int))))) := (But.refl _ _).setCell _ _
  have R1 : Hid (Rd (w.setCell ⟨g, 72, none⟩ (.int .i64 ((n : Int) + (l.length : Int)))).heap.size (w.setCell ⟨g, 72, none⟩ (.int .i64 ((n : Int) + (l.length : Int)))) (.slice A l.length c) l) := HR.out.but HAP.out B1.out
  go_enter Tryz.func98, Tryz.ntmps98
  obtain ⟨t, ht⟩ : ∃ t, (l.take (64 - k)).length = t := ⟨_, rfl⟩
  have htm : t = min (64 - k) l.length := by rw [← ht, List.length_take]
  have hpl : k + t ≤ 64 := by omega
  have HT := Lib.hid ht
  have HTM := Lib.hid htm
  have HOV : Hid ((ocs st left (n + l.length)).take (8 + k) ++ (bys (l.take (64 - k)) ++ (ocs st left (n + l.length)).drop (8 + k + (l.take (64 - k)).length)) = ocs st (over left k (l.take (64 - k))) (n + l.length)) :=
    ocs_over st left _ _ k H8.out H64.out (by rw [ht]; exact hpl)
  obtain ⟨LV, hLV⟩ : ∃ LV, over left k (l.take (64 - k)) = LV := ⟨_, rfl⟩
  rw [hLV] at HOV
  have HLV := Lib.hid hLV
  clear ht htm hLV
  go_wp2_with (refine wpList_copy_to rfl _ _ 34 rfl 5 Tryz.underlying34 s5 g (8 + k) (64 - k) (64 - k) _ rfl rfl (ocs st left (n + l.length)) 146 K1.out _ l R1.out (by rw [ocs_length _ _ _ H8.out H64.out]; omega) t HT.out _ HOV.out ?_)
  intro w2 hb2 hbut2
  have G2 := Lib.hid hb2
  have B2 : Hid (But g w w2) := B1.out.trans hbut2
  clear hb2 hbut2 K1 B1 R1 hcell72 hfr hsl
  by_cases hfull : k + t < 64
  · have htl : t = l.length := by have := HTM.out; omega
    have HTL := Lib.hid htl
    clear htl
    go_wp2
    refine bodyPost_ret (v := .tuple #[]) (ret_null rfl _ _) rfl ⟨rfl, ?_, B2.out⟩
    have hnn := HNN.out
    have hkk := HKK.out
    have he : l.take (64 - k) = l := List.take_of_length_le (by have := HTL.out; omega)
    have h := HH.out.less (l := l) (by rw [hnn, hkk]; have := HTL.out; omega)
    rw [hnn, hkk] at h
    refine ⟨st, over left k l, ?_, h⟩
    have hg := G2.out
    rw [← HLV.out, he] at hg
    rw [List.length_append, hnn]
    exact hg
  · have htk : k + t = 64 := by omega
    have hlt : t ≤ l.length := by have := HTM.out; omega
    have hf := HH.out.full (l := l) t (by rw [HNN.out, HKK.out]; exact htk) hlt
    have hLV64 : LV.length = 64 := by rw [← HLV.out]; exact over_length _ _ _ H64.out (by rw [HT.out]; omega)
    have e64 : 64 - k = t := by omega
    rw [HNN.out, HKK.out] at hf
    rw [show l.take t = l.take (64 - k) by rw [e64], HLV.out] at hf
    obtain ⟨F1, F2, F3, F4⟩ := hf
    have FF2 := Lib.hid F2
    have FF3 := Lib.hid F3
    have FF4 := Lib.hid F4
    have HLV64 := Lib.hid hLV64
    clear F1 F2 F3 F4 hLV64 e64 htk
    go_wp2
    have H33 : Hid ((Tryz.prog.info? 125).map (·.size) = some (ws st).length) := by show _ = _; rw [ws_length, H8.out]; exact s33
    have hg2 := G2.out.lt
    refine wp_region_till 16 15 (fun w' => Below w2.heap.size w2 w') (by kernel_rfl) rfl ?_
    have hS : Below w2.heap.size w2 w2.drew := (Below.refl _ _).drew
    refine AnyTill.free (i := 0) (v := .pointer (some ⟨g, 0, none⟩)) rfl (by kernel_rfl) (by kernel_rfl) (by kernel_rfl) (by kernel_rfl) (fun _ _ _ h => h) (by rfl) (fun w' => ?_) hS ?_
    · first | (go_simp; done) | (go_simp; rfl)
    simp only [Act.put, List.setIfInBounds_toArray, List.set_cons_zero, List.set_cons_succ]
    refine AnyTill.free (i := 1) (v := .pointer (some ⟨g, 0, none⟩)) rfl (by kernel_rfl) (by kernel_rfl) (by kernel_rfl) (by kernel_rfl) (fun _ _ _ h => h) (by rfl) (fun w' => ?_) hS ?_
    · first | (go_simp; done) | (go_simp; rfl)
    simp only [Act.put, List.setIfInBounds_toArray, List.set_cons_zero, List.set_cons_succ]
    refine AnyTill.free (i := 2) (v := .pointer (some ⟨g, 0, none⟩)) rfl (by kernel_rfl) (by kernel_rfl) (by kernel_rfl) (by kernel_rfl) (fun _ _ _ h => h) (by rfl) (fun w' => ?_) hS ?_
    · first | (go_simp; done) | (go_simp; rfl)
    simp only [Act.put, List.setIfInBounds_toArray, List.set_cons_zero, List.set_cons_succ]
    refine AnyTill.free (i := 3) (v := .pointer (some ⟨g, 0, none⟩)) rfl (by kernel_rfl) (by kernel_rfl) (by kernel_rfl) (by kernel_rfl) (fun _ _ _ h => h) (by rfl) (fun w' => ?_) hS ?_
    · first | (go_simp; done) | (go_simp; rfl)
    simp only [Act.put, List.setIfInBounds_toArray, List.set_cons_zero, List.set_cons_succ]
    refine AnyTill.take (i := 4) (v := .agg (ws st).toArray) rfl (by kernel_rfl) (by kernel_rfl) (by kernel_rfl) (by kernel_rfl) (fun _ _ _ h => h) (by rfl) (fun w' hw' => ?_) hS ?_
    · exact run_load_mid 125 _ rfl g 0 rfl (ws st) (rangeAt_ocs (G2.out.below hw' hg2)) 8 48 tu33 H33.out
    simp only [Act.put, List.setIfInBounds_toArray, List.set_cons_zero, List.set_cons_succ]
    refine AnyTill.free (i := 5) (v := .pointer (some ⟨g, 0, none⟩)) rfl (by kernel_rfl) (by kernel_rfl) (by kernel_rfl) (by kernel_rfl) (fun _ _ _ h => h) (by rfl) (fun w' => ?_) hS ?_
    · first | (go_simp; done) | (go_simp; rfl)
    simp only [Act.put, List.setIfInBounds_toArray, List.set_cons_zero, List.set_cons_succ]
    refine AnyTill.free (i := 6) (v := .pointer (some ⟨g, 0, none⟩)) rfl (by kernel_rfl) (by kernel_rfl) (by kernel_rfl) (by kernel_rfl) (fun _ _ _ h => h) (by rfl) (fun w' => ?_) hS ?_
    · first | (go_simp; done) | (go_simp; rfl)
    simp only [Act.put, List.setIfInBounds_toArray, List.set_cons_zero, List.set_cons_succ]
    refine AnyTill.free (i := 7) (v := .pointer (some ⟨g, 8, none⟩)) rfl (by kernel_rfl) (by kernel_rfl) (by kernel_rfl) (by kernel_rfl) (fun _ _ _ h => h) (by rfl) (fun w' => ?_) hS ?_
    · first | (go_simp; done) | (go_simp; rfl)
    simp only [Act.put, List.setIfInBounds_toArray, List.set_cons_zero, List.set_cons_succ]
    refine AnyTill.free (i := 8) (v := .slice (some ⟨g, 8, none⟩) 64 64) rfl (by kernel_rfl) (by kernel_rfl) (by kernel_rfl) (by kernel_rfl) (fun _ _ _ h => h) (by rfl) (fun w' => ?_) hS ?_
    · first | (go_simp; done) | (go_simp; rfl)
    simp only [Act.put, List.setIfInBounds_toArray, List.set_cons_zero, List.set_cons_succ]
    refine AnyTill.one (i := 9) (by kernel_rfl) rfl (by rfl) (fun K hK => ?_)
    go_simp
    have hrl := Rd.left (B := w2.drew.heap.size) (Blk.drew G2.out) H8.out HLV64.out (by simpa using hg2) 64 (Nat.le_refl _)
    rw [List.take_of_length_le (by rw [HLV64.out]; omega)] at hrl
    refine (absorb_any st _ LV _ H8.out HH.out.st32 hrl).mono ?_
    rintro e w3 ⟨v3, rfl, hr3, hb3⟩
    have hS3 : Below w2.heap.size w2 w3 := hS.trans hb3
    refine hK.out _ _ (.inr hS3) ?_
    clear hK K hrl hr3
    rw [HLV64.out, show 64 / 64 = 1 from rfl]
    obtain ⟨st1, hst1⟩ : ∃ s, chain st 1 LV = s := ⟨_, rfl⟩
    have h81 : st1.length = 8 := by rw [← hst1, chain_length st H8.out]
    have h321 : W32 st1 := by rw [← hst1]; exact chain_lt st HH.out.st32 _ _
    rw [hst1]
    refine AnyTill.free (i := 10) (v := .tuple #[.agg (ws st1).toArray, v3]) rfl (by kernel_rfl) (by kernel_rfl) (by kernel_rfl) (by kernel_rfl) (fun _ _ _ h => h) (by rfl) (fun w' => ?_) hS3 ?_
    · first | (go_simp; done) | (go_simp; rfl)
    simp only [Act.put, List.setIfInBounds_toArray, List.set_cons_zero, List.set_cons_succ]
    refine AnyTill.free (i := 11) (v := .agg (ws st1).toArray) rfl (by kernel_rfl) (by kernel_rfl) (by kernel_rfl) (by kernel_rfl) (fun _ _ _ h => h) (by rfl) (fun w' => ?_) hS3 ?_
    · first | (go_simp; done) | (go_simp; rfl)
    simp only [Act.put, List.setIfInBounds_toArray, List.set_cons_zero, List.set_cons_succ]
    refine AnyTill.free (i := 12) (v := v3) rfl (by kernel_rfl) (by kernel_rfl) (by kernel_rfl) (by kernel_rfl) (fun _ _ _ h => h) (by rfl) (fun w' => ?_) hS3 ?_
    · first | (go_simp; done) | (go_simp; rfl)
    simp only [Act.put, List.setIfInBounds_toArray, List.set_cons_zero, List.set_cons_succ]
    refine AnyTill.free (i := 13) (v := .pointer (some ⟨g, 0, none⟩)) rfl (by kernel_rfl) (by kernel_rfl) (by kernel_rfl) (by kernel_rfl) (fun _ _ _ h => h) (by rfl) (fun w' => ?_) hS3 ?_
    · first | (go_simp; done) | (go_simp; rfl)
    simp only [Act.put, List.setIfInBounds_toArray, List.set_cons_zero, List.set_cons_succ]
    refine AnyTill.free (i := 14) (v := .pointer (some ⟨g, 0, none⟩)) rfl (by kernel_rfl) (by kernel_rfl) (by kernel_rfl) (by kernel_rfl) (fun _ _ _ h => h) (by rfl) (fun w' => ?_) hS3 ?_
    · first | (go_simp; done) | (go_simp; rfl)
    simp only [Act.put, List.setIfInBounds_toArray, List.set_cons_zero, List.set_cons_succ]
    refine AnyTill.one (i := 15) (by kernel_rfl) rfl (by rfl) (fun K hK => ?_)
    refine wp_store_state _ _ rfl g (n + l.length) st st1 LV rfl rfl (G2.out.below hS3 hg2) H8.out h81 HLV64.out (fun hb4 => ?_)
    refine hK.out _ _ (.inl (by kernel_rfl)) ?_
    clear hK K
    refine AnyTill.done (by kernel_rfl) ?_
    refine NoPanic.normal ?_
    simp only [Act.put]
    have G4 := Lib.hid hb4
    have B4 : Hid (But g w (w3.setCells g 0 (ws st1))) := (B2.out.trans (But.of hS3 (Nat.le_refl _))).setCells _ _
    generalize w3.setCells g 0 (ws st1) = w4 at G4 B4 ⊢
    have R4 : Hid (Rd w4.heap.size w4 (.slice A l.length c) l) := HR.out.but HAP.out B4.out
    have HST1 := Lib.hid hst1
    have H81 := Lib.hid h81
    clear hS hS3 hb3 hb4 G2 B2 hg2 hst1 h81 H33
    obtain ⟨a, rfl⟩ : ∃ a, A = some a := by
      obtain ⟨A', c', hv, h1, h2, h3, h4⟩ := R4.out
      injection hv with e1 e2 e3
      subst e1 e3
      cases A with
      | none => have := h3 rfl; have := HTM.out; omega
      | some a => exact ⟨a, rfl⟩
    have zt1 : ¬ (l.length : Int) < (t : Int) := by omega
    by_cases hct : c = t
    · have hct' := hct.symm
      subst hct'
      have hlc : l.length = t := by omega
      have HLC := Lib.hid hlc
      clear hlc hct
      have RT : Hid (Rd w4.heap.size w4 (.slice (some a) 0 0) (l.drop t)) := by
        have h := R4.out.drop t hlt
        rw [if_pos rfl, show l.length - t = 0 by have := HLC.out; omega, Nat.sub_self] at h; exact h
      have hg4 := G4.out.lt
      have H331 : Hid ((Tryz.prog.info? 125).map (·.size) = some (ws st1).length) := by show _ = _; rw [ws_length, H81.out]; exact s33
      go_wp2
      refine wp_region_till 16 14 (fun w' => Below w4.heap.size w4 w') (by kernel_rfl) rfl ?_
      have hS : Below w4.heap.size w4 w4.drew := (Below.refl _ _).drew
      refine AnyTill.free (i := 0) (v := .pointer (some ⟨g, 0, none⟩)) rfl (by kernel_rfl) (by kernel_rfl) (by kernel_rfl) (by kernel_rfl) (fun _ _ _ h => h) (by rfl) (fun w' => ?_) hS ?_
      · first | (go_simp; done) | (go_simp; rfl)
      simp only [Act.put, List.setIfInBounds_toArray, List.set_cons_zero, List.set_cons_succ]
      refine AnyTill.free (i := 1) (v := .pointer (some ⟨g, 0, none⟩)) rfl (by kernel_rfl) (by kernel_rfl) (by kernel_rfl) (by kernel_rfl) (fun _ _ _ h => h) (by rfl) (fun w' => ?_) hS ?_
      · first | (go_simp; done) | (go_simp; rfl)
      simp only [Act.put, List.setIfInBounds_toArray, List.set_cons_zero, List.set_cons_succ]
      refine AnyTill.free (i := 2) (v := .pointer (some ⟨g, 0, none⟩)) rfl (by kernel_rfl) (by kernel_rfl) (by kernel_rfl) (by kernel_rfl) (fun _ _ _ h => h) (by rfl) (fun w' => ?_) hS ?_
      · first | (go_simp; done) | (go_simp; rfl)
      simp only [Act.put, List.setIfInBounds_toArray, List.set_cons_zero, List.set_cons_succ]
      refine AnyTill.free (i := 3) (v := .pointer (some ⟨g, 0, none⟩)) rfl (by kernel_rfl) (by kernel_rfl) (by kernel_rfl) (by kernel_rfl) (fun _ _ _ h => h) (by rfl) (fun w' => ?_) hS ?_
      · first | (go_simp; done) | (go_simp; rfl)
      simp only [Act.put, List.setIfInBounds_toArray, List.set_cons_zero, List.set_cons_succ]
      refine AnyTill.take (i := 4) (v := .agg (ws st1).toArray) rfl (by kernel_rfl) (by kernel_rfl) (by kernel_rfl) (by kernel_rfl) (fun _ _ _ h => h) (by rfl) (fun w' hw' => ?_) hS ?_
      · exact run_load_mid 125 _ rfl g 0 rfl (ws st1) (rangeAt_ocs (G4.out.below hw' hg4)) 8 48 tu33 H331.out
      simp only [Act.put, List.setIfInBounds_toArray, List.set_cons_zero, List.set_cons_succ]
      refine AnyTill.free (i := 5) (v := .slice (some a) l.length t) rfl (by kernel_rfl) (by kernel_rfl) (by kernel_rfl) (by kernel_rfl) (fun _ _ _ h => h) (by rfl) (fun w' => ?_) hS ?_
      · first | (go_simp; done) | (go_simp; rfl)
      simp only [Act.put, List.setIfInBounds_toArray, List.set_cons_zero, List.set_cons_succ]
      refine AnyTill.free (i := 6) (v := .int .i64 (t : Int)) rfl (by kernel_rfl) (by kernel_rfl) (by kernel_rfl) (by kernel_rfl) (fun _ _ _ h => h) (by rfl) (fun w' => ?_) hS ?_
      · first | (go_simp; done) | (go_simp; rfl)
      simp only [Act.put, List.setIfInBounds_toArray, List.set_cons_zero, List.set_cons_succ]
      refine AnyTill.free (i := 7) (v := .slice (some a) 0 0) rfl (by kernel_rfl) (by kernel_rfl) (by kernel_rfl) (by kernel_rfl) (fun _ _ _ h => h) (by rfl) (fun w' => ?_) hS ?_
      · first | (go_simp; done) | (go_simp; rfl)
      simp only [Act.put, List.setIfInBounds_toArray, List.set_cons_zero, List.set_cons_succ]
      refine AnyTill.one (i := 8) (by kernel_rfl) rfl (by rfl) (fun K hK => ?_)
      go_simp
      refine (absorb_any st1 _ (l.drop t) w4.drew H81.out h321 (RT.out.below (w' := w4.drew) ((Below.refl _ _).drew))).mono ?_
      rintro e w5 ⟨v5, rfl, hr5, hb5⟩
      have hS5 : Below w4.heap.size w4 w5 := hS.trans hb5
      refine hK.out _ _ (.inr hS5) ?_
      clear hK K
      have hst2 : chain st1 ((l.drop t).length / 64) (l.drop t) = chain iv ((bs ++ l).length / 64) (bs ++ l) := by rw [← HST1.out]; exact FF2.out
      rw [hst2]
      rw [FF3.out] at hr5
      obtain ⟨st2, hs2⟩ : ∃ s, chain iv ((bs ++ l).length / 64) (bs ++ l) = s := ⟨_, rfl⟩
      obtain ⟨r, hrr⟩ : ∃ r, (bs ++ l).drop (64 * ((bs ++ l).length / 64)) = r := ⟨_, rfl⟩
      have hrl : r.length < 64 := by rw [← hrr, List.length_drop]; omega
      have h82 : st2.length = 8 := by rw [← hs2, chain_length iv iv_length]
      rw [hs2]
      rw [hrr] at hr5
      refine AnyTill.free (i := 9) (v := .tuple #[.agg (ws st2).toArray, v5]) rfl (by kernel_rfl) (by kernel_rfl) (by kernel_rfl) (by kernel_rfl) (fun _ _ _ h => h) (by rfl) (fun w' => ?_) hS5 ?_
      · first | (go_simp; done) | (go_simp; rfl)
      simp only [Act.put, List.setIfInBounds_toArray, List.set_cons_zero, List.set_cons_succ]
      refine AnyTill.free (i := 10) (v := .agg (ws st2).toArray) rfl (by kernel_rfl) (by kernel_rfl) (by kernel_rfl) (by kernel_rfl) (fun _ _ _ h => h) (by rfl) (fun w' => ?_) hS5 ?_
      · first | (go_simp; done) | (go_simp; rfl)
      simp only [Act.put, List.setIfInBounds_toArray, List.set_cons_zero, List.set_cons_succ]
      refine AnyTill.free (i := 11) (v := v5) rfl (by kernel_rfl) (by kernel_rfl) (by kernel_rfl) (by kernel_rfl) (fun _ _ _ h => h) (by rfl) (fun w' => ?_) hS5 ?_
      · first | (go_simp; done) | (go_simp; rfl)
      simp only [Act.put, List.setIfInBounds_toArray, List.set_cons_zero, List.set_cons_succ]
      refine AnyTill.free (i := 12) (v := .pointer (some ⟨g, 0, none⟩)) rfl (by kernel_rfl) (by kernel_rfl) (by kernel_rfl) (by kernel_rfl) (fun _ _ _ h => h) (by rfl) (fun w' => ?_) hS5 ?_
      · first | (go_simp; done) | (go_simp; rfl)
      simp only [Act.put, List.setIfInBounds_toArray, List.set_cons_zero, List.set_cons_succ]
      refine AnyTill.free (i := 13) (v := .pointer (some ⟨g, 0, none⟩)) rfl (by kernel_rfl) (by kernel_rfl) (by kernel_rfl) (by kernel_rfl) (fun _ _ _ h => h) (by rfl) (fun w' => ?_) hS5 ?_
      · first | (go_simp; done) | (go_simp; rfl)
      simp only [Act.put, List.setIfInBounds_toArray, List.set_cons_zero, List.set_cons_succ]
      have R5 : Rd w5.heap.size w5 v5 r := (Rd.below hr5 hb5).more hb5.size
      refine AnyTill.one (i := 14) (by kernel_rfl) rfl (by rfl) (fun K hK => ?_)
      refine wp_store_state _ _ rfl g (n + l.length) st1 st2 LV rfl rfl (G4.out.below hS5 hg4) H81.out h82 HLV64.out (fun hb6 => ?_)
      have R6 : Hid (Rd w5.heap.size (w5.setCells g 0 (ws st2)) v5 r) := R5.setState (G4.out.below hS5 hg4) H81.out (ws st2) (by rw [ws_length, h82])
      refine hK.out _ _ (.inl (by kernel_rfl)) ?_
      clear hK K
      refine AnyTill.one (i := 15) (by kernel_rfl) rfl (by rfl) (fun K hK => ?_)
      go_simp
      refine hK.out _ _ (.inl (by kernel_rfl)) ?_
      clear hK K
      refine AnyTill.done (by kernel_rfl) ?_
      refine NoPanic.normal ?_
      have G6 := Lib.hid hb6
      have B6 : Hid (But g w (w5.setCells g 0 (ws st2))) := (B4.out.trans (But.of hS5 (Nat.le_refl _))).setCells _ _
      generalize w5.setCells g 0 (ws st2) = w6 at G6 B6 R6 ⊢
      have H82 := Lib.hid h82
      have HS2 := Lib.hid hs2
      have HRR := Lib.hid hrr
      have hrt : r.take 64 = r := List.take_of_length_le (by omega)
      have HRT : Hid ((r.take 64).length = r.length) := by show _ = _; rw [hrt]
      have HOV2 : Hid ((ocs st2 LV (n + l.length)).take 8 ++ (bys (r.take 64) ++ (ocs st2 LV (n + l.length)).drop (8 + (r.take 64).length)) = ocs st2 (over LV 0 r) (n + l.length)) := by
        have h := ocs_over st2 LV r (n + l.length) 0 h82 HLV64.out (by omega)
        rw [Nat.add_zero] at h
        show _ = _
        rw [hrt]
        exact h
      clear hS hS5 hb5 hb6 hr5 R5 G4 B4 R4 hg4 hst2 hs2 hrr h82 hrt RT H331
      obtain ⟨A5, c5, rfl, _⟩ := R6.out.shape
      go_wp2_with (refine wpList_copy_to rfl _ _ 34 rfl 5 Tryz.underlying34 s5 g 8 64 64 _ rfl rfl (ocs st2 LV (n + l.length)) 146 G6.out _ r R6.out (by rw [ocs_length _ _ _ H82.out HLV64.out]; omega) r.length HRT.out _ HOV2.out ?_)
      intro w7 hb7 hbut7
      have G7 := Lib.hid hb7
      have B7 : Hid (But g w w7) := B6.out.trans hbut7
      clear hb7 hbut7 G6 B6
      go_wp2
      first | (refine bodyPost_ret (v := .tuple #[]) (ret_null rfl _ _) rfl ⟨rfl, ?_, B7.out⟩) | (refine bodyPost_end (ret_null rfl _ _) rfl ⟨rfl, ?_, B7.out⟩)
      have hh := Holds.rest (bs := bs ++ l) (left := LV) (r := r) HLV64.out HRR.out.symm
      rw [HS2.out] at hh
      refine ⟨st2, over LV 0 r, ?_, hh⟩
      rw [List.length_append, HNN.out]
      exact G7.out
    · have RT : Hid (Rd w4.heap.size w4 (.slice (some (a.add t)) (l.length - t) (c - t)) (l.drop t)) := by
        have h := R4.out.drop t hlt
        rw [if_neg hct] at h; exact h
      have hg4 := G4.out.lt
      have H331 : Hid ((Tryz.prog.info? 125).map (·.size) = some (ws st1).length) := by show _ = _; rw [ws_length, H81.out]; exact s33
      go_wp2
      refine wp_region_till 16 14 (fun w' => Below w4.heap.size w4 w') (by kernel_rfl) rfl ?_
      have hS : Below w4.heap.size w4 w4.drew := (Below.refl _ _).drew
      refine AnyTill.free (i := 0) (v := .pointer (some ⟨g, 0, none⟩)) rfl (by kernel_rfl) (by kernel_rfl) (by kernel_rfl) (by kernel_rfl) (fun _ _ _ h => h) (by rfl) (fun w' => ?_) hS ?_
      · first | (go_simp; done) | (go_simp; rfl)
      simp only [Act.put, List.setIfInBounds_toArray, List.set_cons_zero, List.set_cons_succ]
      refine AnyTill.free (i := 1) (v := .pointer (some ⟨g, 0, none⟩)) rfl (by kernel_rfl) (by kernel_rfl) (by kernel_rfl) (by kernel_rfl) (fun _ _ _ h => h) (by rfl) (fun w' => ?_) hS ?_
      · first | (go_simp; done) | (go_simp; rfl)
      simp only [Act.put, List.setIfInBounds_toArray, List.set_cons_zero, List.set_cons_succ]
      refine AnyTill.free (i := 2) (v := .pointer (some ⟨g, 0, none⟩)) rfl (by kernel_rfl) (by kernel_rfl) (by kernel_rfl) (by kernel_rfl) (fun _ _ _ h => h) (by rfl) (fun w' => ?_) hS ?_
      · first | (go_simp; done) | (go_simp; rfl)
      simp only [Act.put, List.setIfInBounds_toArray, List.set_cons_zero, List.set_cons_succ]
      refine AnyTill.free (i := 3) (v := .pointer (some ⟨g, 0, none⟩)) rfl (by kernel_rfl) (by kernel_rfl) (by kernel_rfl) (by kernel_rfl) (fun _ _ _ h => h) (by rfl) (fun w' => ?_) hS ?_
      · first | (go_simp; done) | (go_simp; rfl)
      simp only [Act.put, List.setIfInBounds_toArray, List.set_cons_zero, List.set_cons_succ]
      refine AnyTill.take (i := 4) (v := .agg (ws st1).toArray) rfl (by kernel_rfl) (by kernel_rfl) (by kernel_rfl) (by kernel_rfl) (fun _ _ _ h => h) (by rfl) (fun w' hw' => ?_) hS ?_
      · exact run_load_mid 125 _ rfl g 0 rfl (ws st1) (rangeAt_ocs (G4.out.below hw' hg4)) 8 48 tu33 H331.out
      simp only [Act.put, List.setIfInBounds_toArray, List.set_cons_zero, List.set_cons_succ]
      refine AnyTill.free (i := 5) (v := .slice (some a) l.length c) rfl (by kernel_rfl) (by kernel_rfl) (by kernel_rfl) (by kernel_rfl) (fun _ _ _ h => h) (by rfl) (fun w' => ?_) hS ?_
      · first | (go_simp; done) | (go_simp; rfl)
      simp only [Act.put, List.setIfInBounds_toArray, List.set_cons_zero, List.set_cons_succ]
      refine AnyTill.free (i := 6) (v := .int .i64 (t : Int)) rfl (by kernel_rfl) (by kernel_rfl) (by kernel_rfl) (by kernel_rfl) (fun _ _ _ h => h) (by rfl) (fun w' => ?_) hS ?_
      · first | (go_simp; done) | (go_simp; rfl)
      simp only [Act.put, List.setIfInBounds_toArray, List.set_cons_zero, List.set_cons_succ]
      refine AnyTill.free (i := 7) (v := .slice (some (a.add t)) (l.length - t) (c - t)) rfl (by kernel_rfl) (by kernel_rfl) (by kernel_rfl) (by kernel_rfl) (fun _ _ _ h => h) (by rfl) (fun w' => ?_) hS ?_
      · first | (go_simp; done) | (go_simp; rfl)
      simp only [Act.put, List.setIfInBounds_toArray, List.set_cons_zero, List.set_cons_succ]
      refine AnyTill.one (i := 8) (by kernel_rfl) rfl (by rfl) (fun K hK => ?_)
      go_simp
      refine (absorb_any st1 _ (l.drop t) w4.drew H81.out h321 (RT.out.below (w' := w4.drew) ((Below.refl _ _).drew))).mono ?_
      rintro e w5 ⟨v5, rfl, hr5, hb5⟩
      have hS5 : Below w4.heap.size w4 w5 := hS.trans hb5
      refine hK.out _ _ (.inr hS5) ?_
      clear hK K
      have hst2 : chain st1 ((l.drop t).length / 64) (l.drop t) = chain iv ((bs ++ l).length / 64) (bs ++ l) := by rw [← HST1.out]; exact FF2.out
      rw [hst2]
      rw [FF3.out] at hr5
      obtain ⟨st2, hs2⟩ : ∃ s, chain iv ((bs ++ l).length / 64) (bs ++ l) = s := ⟨_, rfl⟩
      obtain ⟨r, hrr⟩ : ∃ r, (bs ++ l).drop (64 * ((bs ++ l).length / 64)) = r := ⟨_, rfl⟩
      have hrl : r.length < 64 := by rw [← hrr, List.length_drop]; omega
      have h82 : st2.length = 8 := by rw [← hs2, chain_length iv iv_length]
      rw [hs2]
      rw [hrr] at hr5
      refine AnyTill.free (i := 9) (v := .tuple #[.agg (ws st2).toArray, v5]) rfl (by kernel_rfl) (by kernel_rfl) (by kernel_rfl) (by kernel_rfl) (fun _ _ _ h => h) (by rfl) (fun w' => ?_) hS5 ?_
      · first | (go_simp; done) | (go_simp; rfl)
      simp only [Act.put, List.setIfInBounds_toArray, List.set_cons_zero, List.set_cons_succ]
      refine AnyTill.free (i := 10) (v := .agg (ws st2).toArray) rfl (by kernel_rfl) (by kernel_rfl) (by kernel_rfl) (by kernel_rfl) (fun _ _ _ h => h) (by rfl) (fun w' => ?_) hS5 ?_
      · first | (go_simp; done) | (go_simp; rfl)
      simp only [Act.put, List.setIfInBounds_toArray, List.set_cons_zero, List.set_cons_succ]
      refine AnyTill.free (i := 11) (v := v5) rfl (by kernel_rfl) (by kernel_rfl) (by kernel_rfl) (by kernel_rfl) (fun _ _ _ h => h) (by rfl) (fun w' => ?_) hS5 ?_
      · first | (go_simp; done) | (go_simp; rfl)
      simp only [Act.put, List.setIfInBounds_toArray, List.set_cons_zero, List.set_cons_succ]
      refine AnyTill.free (i := 12) (v := .pointer (some ⟨g, 0, none⟩)) rfl (by kernel_rfl) (by kernel_rfl) (by kernel_rfl) (by kernel_rfl) (fun _ _ _ h => h) (by rfl) (fun w' => ?_) hS5 ?_
      · first | (go_simp; done) | (go_simp; rfl)
      simp only [Act.put, List.setIfInBounds_toArray, List.set_cons_zero, List.set_cons_succ]
      refine AnyTill.free (i := 13) (v := .pointer (some ⟨g, 0, none⟩)) rfl (by kernel_rfl) (by kernel_rfl) (by kernel_rfl) (by kernel_rfl) (fun _ _ _ h => h) (by rfl) (fun w' => ?_) hS5 ?_
      · first | (go_simp; done) | (go_simp; rfl)
      simp only [Act.put, List.setIfInBounds_toArray, List.set_cons_zero, List.set_cons_succ]
      have R5 : Rd w5.heap.size w5 v5 r := (Rd.below hr5 hb5).more hb5.size
      refine AnyTill.one (i := 14) (by kernel_rfl) rfl (by rfl) (fun K hK => ?_)
      refine wp_store_state _ _ rfl g (n + l.length) st1 st2 LV rfl rfl (G4.out.below hS5 hg4) H81.out h82 HLV64.out (fun hb6 => ?_)
      have R6 : Hid (Rd w5.heap.size (w5.setCells g 0 (ws st2)) v5 r) := R5.setState (G4.out.below hS5 hg4) H81.out (ws st2) (by rw [ws_length, h82])
      refine hK.out _ _ (.inl (by kernel_rfl)) ?_
      clear hK K
      refine AnyTill.one (i := 15) (by kernel_rfl) rfl (by rfl) (fun K hK => ?_)
      go_simp
      refine hK.out _ _ (.inl (by kernel_rfl)) ?_
      clear hK K
      refine AnyTill.done (by kernel_rfl) ?_
      refine NoPanic.normal ?_
      have G6 := Lib.hid hb6
      have B6 : Hid (But g w (w5.setCells g 0 (ws st2))) := (B4.out.trans (But.of hS5 (Nat.le_refl _))).setCells _ _
      generalize w5.setCells g 0 (ws st2) = w6 at G6 B6 R6 ⊢
      have H82 := Lib.hid h82
      have HS2 := Lib.hid hs2
      have HRR := Lib.hid hrr
      have hrt : r.take 64 = r := List.take_of_length_le (by omega)
      have HRT : Hid ((r.take 64).length = r.length) := by show _ = _; rw [hrt]
      have HOV2 : Hid ((ocs st2 LV (n + l.length)).take 8 ++ (bys (r.take 64) ++ (ocs st2 LV (n + l.length)).drop (8 + (r.take 64).length)) = ocs st2 (over LV 0 r) (n + l.length)) := by
        have h := ocs_over st2 LV r (n + l.length) 0 h82 HLV64.out (by omega)
        rw [Nat.add_zero] at h
        show _ = _
        rw [hrt]
        exact h
      clear hS hS5 hb5 hb6 hr5 R5 G4 B4 R4 hg4 hst2 hs2 hrr h82 hrt RT H331
      obtain ⟨A5, c5, rfl, _⟩ := R6.out.shape
      go_wp2_with (refine wpList_copy_to rfl _ _ 34 rfl 5 Tryz.underlying34 s5 g 8 64 64 _ rfl rfl (ocs st2 LV (n + l.length)) 146 G6.out _ r R6.out (by rw [ocs_length _ _ _ H82.out HLV64.out]; omega) r.length HRT.out _ HOV2.out ?_)
      intro w7 hb7 hbut7
      have G7 := Lib.hid hb7
      have B7 : Hid (But g w w7) := B6.out.trans hbut7
      clear hb7 hbut7 G6 B6
      go_wp2
      first | (refine bodyPost_ret (v := .tuple #[]) (ret_null rfl _ _) rfl ⟨rfl, ?_, B7.out⟩) | (refine bodyPost_end (ret_null rfl _ _) rfl ⟨rfl, ?_, B7.out⟩)
      have hh := Holds.rest (bs := bs ++ l) (left := LV) (r := r) HLV64.out HRR.out.symm
      rw [HS2.out] at hh
      refine ⟨st2, over LV 0 r, ?_, hh⟩
      rw [List.length_append, HNN.out]
      exact G7.out
end Go.Proofs.YtnemkefmlffigaaGreat
