/-
  The law OtsCandidate, walked: it answers true for every claim.
-/
import Derived.Test.YtnemkefmlffigaaRi
import Derived.Test.YtnemkefmlffigaaEq
import Derived.Stop.BytesEq
namespace Go.Proofs.Ytnemkefmlffigaa
open Go.RowKit

theorem or_addC (a b k : Nat) (h : b < 2 ^ k) : a * 2 ^ k ||| b = a * 2 ^ k + b := by
  have := Nat.two_pow_add_eq_or_of_lt h a
  rw [Nat.mul_comm] at this
  exact this.symm
theorem wd_sumC (b : List UInt8) (t : Nat) : wd b t = (b.getD (4 * t) 0).toNat * 16777216 + (b.getD (4 * t + 1) 0).toNat * 65536 + (b.getD (4 * t + 2) 0).toNat * 256 + (b.getD (4 * t + 3) 0).toNat := by
  have h1 := (b.getD (4 * t) 0).toNat_lt
  have h2 := (b.getD (4 * t + 1) 0).toNat_lt
  have h3 := (b.getD (4 * t + 2) 0).toNat_lt
  have h4 := (b.getD (4 * t + 3) 0).toNat_lt
  unfold wd
  generalize (b.getD (4 * t) 0).toNat = x at *
  generalize (b.getD (4 * t + 1) 0).toNat = y at *
  generalize (b.getD (4 * t + 2) 0).toNat = z at *
  generalize (b.getD (4 * t + 3) 0).toNat = u at *
  have e1 := or_addC x (y * 65536) 24 (by omega)
  have e2 := or_addC (x * 256 + y) (z * 256) 16 (by omega)
  have e3 := or_addC (x * 65536 + y * 256 + z) u 8 (by omega)
  rw [show x * 16777216 = x * 2 ^ 24 from rfl, e1, show x * 2 ^ 24 + y * 65536 = (x * 256 + y) * 2 ^ 16 by omega, e2, show (x * 256 + y) * 2 ^ 16 + z * 256 = (x * 65536 + y * 256 + z) * 2 ^ 8 by omega, e3]
theorem be_wd4 (l : List UInt8) (hl : l.length = 4) : be 4 (wd l 0) = l := by
  match l, hl with
  | [a, b, c, d], _ =>
    have h1 := a.toNat_lt
    have h2 := b.toNat_lt
    have h3 := c.toNat_lt
    have h4 := d.toNat_lt
    have e : wd [a, b, c, d] 0 = val [a, b, c, d] := by
      rw [wd_sumC]
      simp [val]
      omega
    rw [e]
    exact be_val [a, b, c, d]
theorem fits_from {s : List UInt8} {k : Nat} (hf : Fits s k) (h4 : 4 ≤ s.length) : wFrom (s.take 4) 1 = k := by
  obtain ⟨hk, ht, _⟩ := hf
  have e : be 4 (typ k) = s.take 4 := by rw [ht]; exact be_wd4 _ (by rw [List.length_take]; omega)
  rw [← e]
  rcases hk with rfl | rfl | rfl | rfl <;> decide
/-- Both Candidates answer one hash and one number. -/
theorem cand_both (I text s : List UInt8) (q : Nat) (hI : I.length = 16) (hq : q < 4294967296) (htl : text.length ≤ 90000) (hl : s.length ≤ 1000000) :
    ∃ (r : List UInt8) (n : Int), r.length = 32 ∧ (∀ tv sv w, Rd w.heap.size w tv text → Rd w.heap.size w sv s → Calls Try.prog 8 #[.agg (bys I).toArray, .int .u32 (q : Int), tv, sv] w (TwoD (.agg (bys r).toArray) (.int .i64 n) w)) ∧
      (∀ tv sv w, Rd w.heap.size w tv text → Rd w.heap.size w sv s → Calls Try.prog 9 #[.agg (bys I).toArray, .int .u32 (q : Int), tv, sv] w (TwoD (.agg (bys r).toArray) (.int .i64 n) w)) := by
  by_cases h4 : s.length < 4
  · exact ⟨List.replicate 32 0, 2, by simp, fun tv sv w ht hs => candX_short I text s q tv sv w hI hq ht hs h4, fun tv sv w _ hs => refCand_short I s q tv sv w hs h4⟩
  · by_cases hf : ∃ k, Fits s k
    · obtain ⟨k, hf⟩ := hf
      have hk := hf.1
      have hsl := hf.2.2
      exact ⟨cndL (pre20 I q) s text k, 0, hpub_length _ _, fun tv sv w ht hs => candX_yes I text s q k tv sv w hI hq ht hs (by omega) hf, fun tv sv w ht hs => refCand_yes I text s q k tv sv w hI hq ht hs htl (by omega) hl hk hsl (fits_from hf (by omega))⟩
    · have hf' : ∀ k, ¬ Fits s k := fun k h => hf ⟨k, h⟩
      exact ⟨List.replicate 32 0, 3, by simp, fun tv sv w ht hs => candX_form I text s q tv sv w hI hq ht hs (by omega) hl hf', fun tv sv w _ hs => refCand_form I s q tv sv w hI hs (by omega) hl hf'⟩

theorem wpList_load_blkG {P : Program} {w : World} {ops : Array Oper} {rest : List Oper} {o : Oper} {a : Act} {Q : Exit → Act → World → Prop} (t : TypeId) (x : Operand) (ho : o.op = .load t x) (g : Nat) (hx : a.eval x = .pointer (some ⟨g, 0, none⟩)) (cs : List Value) (u : TypeId) (hb : Blk w g cs u)
    (n : Nat) (e : TypeId) (hu : P.underlying t = some (.array n e)) (hi : (P.info? t).map (·.size) = some cs.length) (hw : Region.wanted o (yielded ops a.tmps) = true)
    (h : wpList P ops Q rest (a.put o.dst (.agg cs.toArray)) w) : wpList P ops Q (o :: rest) a w := by
  refine BigFrame.wpList_want hw (fun K hK => ?_)
  unfold Oper.wp
  rw [run_load_blk t x ho g hx cs u hb n e hu hi]
  exact hK _ _ h
/-- The cells of a claim. -/
def ccs (I : List UInt8) (q : Nat) (t s : Value) : List Value := bys I ++ [.int .u32 (q : Int), t, s]
theorem ccs_length (I : List UInt8) (q : Nat) (t s : Value) (hI : I.length = 16) : (ccs I q t s).length = 19 := by simp [ccs, bys_length, hI]
theorem ccs_rangeI {w : World} {g : Nat} {I : List UInt8} {q : Nat} {a b : Value} {t : TypeId} (h : Blk w g (ccs I q a b) t) : w.rangeAt g 0 (bys I) := fun j v hv => by
  have hj : j < (bys I).length := (List.getElem?_eq_some_iff.1 hv).1
  rw [h.cell, Nat.zero_add]
  unfold ccs
  rw [List.getElem?_append_left hj]
  exact hv
theorem ccs_at (I : List UInt8) (q : Nat) (t s : Value) (hI : I.length = 16) (j : Nat) : (ccs I q t s)[16 + j]? = ([.int .u32 (q : Int), t, s] : List Value)[j]? := by
  unfold ccs
  rw [List.getElem?_append_right (by rw [bys_length, hI]; omega), bys_length, hI, show 16 + j - 16 = j by omega]

set_option maxRecDepth 100000 in
set_option maxHeartbeats 400000 in
theorem cand_big (I text s : List UInt8) (q : Nat) (tv sv : Value) (w : World) (hI : I.length = 16) (ht : Rd w.heap.size w tv text) (hs : Rd w.heap.size w sv s) (hl : 3000 < text.length ∨ 9000 < s.length) : Calls Try.prog 3 #[.agg (ccs I q tv sv).toArray] w (One (.bool true) w) := by
  obtain ⟨At, ct, rfl, hct, hmt⟩ := ht.shape
  obtain ⟨As, cs, rfl, hcs, hms⟩ := hs.shape
  unfold maxLen at hmt hms
  obtain ⟨n, hn⟩ : ∃ n, text.length = n := ⟨_, rfl⟩
  obtain ⟨m, hm⟩ : ∃ n, s.length = n := ⟨_, rfl⟩
  rw [hn] at hl hct ⊢
  rw [hm] at hl hcs ⊢
  have HC1 := Lib.hid (ccs_at I q (.slice At n ct) (.slice As m cs) hI 1)
  have HC2 := Lib.hid (ccs_at I q (.slice At n ct) (.slice As m cs) hI 2)
  clear ht hs hn hm hI
  go_enter Try.func3, Try.ntmps3
  go_wp2_with (refine wpList_box_blk rfl 26 _ rfl (ccs I q (.slice At n ct) (.slice As m cs)) rfl ?_)
  intro w1 a1 a2 a3
  have c1 : w1.cell? ⟨w.heap.size, 17, none⟩ = some (.slice At n ct) := (a1.cell 17).trans HC1.out
  have c2 : w1.cell? ⟨w.heap.size, 18, none⟩ = some (.slice As m cs) := (a1.cell 18).trans HC2.out
  have A3 := Lib.hid a3
  clear a1 a2 a3
  by_cases hn3 : 3000 < n
  · have zn : (3000 : Int) < (n : Int) := by omega
    go_wp2_with fail
    refine (alive_any _).mono ?_
    rintro e w2 ⟨rfl, hb⟩
    have B1 : Hid (Below w.heap.size w w2) := A3.out.trans (hb.mono A3.out.size)
    clear hb A3 c1 c2
    go_wp2
    go_ret
    exact ⟨rfl, B1.out⟩
  · have zn : decide ((3000 : Int) < (n : Int)) = false := decide_eq_false (by omega)
    have zm : (9000 : Int) < (m : Int) := by omega
    go_wp2_with fail
    refine (alive_any _).mono ?_
    rintro e w2 ⟨rfl, hb⟩
    have B1 : Hid (Below w.heap.size w w2) := A3.out.trans (hb.mono A3.out.size)
    clear hb A3 c1 c2
    go_wp2
    go_ret
    exact ⟨rfl, B1.out⟩

set_option maxRecDepth 100000 in
set_option maxHeartbeats 1000000 in
theorem cand_small (I text s : List UInt8) (q : Nat) (tv sv : Value) (w : World) (hI : I.length = 16) (hq : q < 4294967296) (ht : Rd w.heap.size w tv text) (hs : Rd w.heap.size w sv s) (hl : text.length ≤ 3000) (hl2 : s.length ≤ 9000) : Calls Try.prog 3 #[.agg (ccs I q tv sv).toArray] w (One (.bool true) w) := by
  obtain ⟨r, en, hr, hA, hB⟩ := cand_both I text s q hI hq (by omega) (by omega)
  have SA := Lib.hid hA
  have SB := Lib.hid hB
  have HR := Lib.hid hr
  have H24 : Hid ((Try.prog.info? 28).map (·.size) = some (bys r).length) := by show _ = _; rw [bys_length, hr]; exact s24
  have HLZ : Hid (z32.length = (bys r).length) := by show _ = _; rw [bys_length, hr, z32_length]
  obtain ⟨i0, hi0, hz0, hz1, hz2⟩ := info_parts info5
  have HIN := Lib.hid hi0
  have H0 := Lib.hid hz0
  have H1 := Lib.hid hz1
  have H2 := Lib.hid hz2
  have HI := Lib.hid hI
  have HT := Lib.hid ht
  have HSG := Lib.hid hs
  obtain ⟨At, ct, rfl, hct, hmt⟩ := ht.shape
  obtain ⟨As, cs, rfl, hcs, hms⟩ := hs.shape
  unfold maxLen at hmt hms
  obtain ⟨n, hn⟩ : ∃ n, text.length = n := ⟨_, rfl⟩
  obtain ⟨m, hm⟩ : ∃ n, s.length = n := ⟨_, rfl⟩
  have HML := Lib.hid hm
  rw [hn] at hl hct HT ⊢
  rw [hm] at hl2 hcs HSG ⊢
  have H22 : Hid ((Try.prog.info? 22).map (·.size) = some (bys I).length) := by show _ = _; rw [bys_length, hI]; exact s22
  have HC0 := Lib.hid (ccs_at I q (.slice At n ct) (.slice As m cs) hI 0)
  have HC1 := Lib.hid (ccs_at I q (.slice At n ct) (.slice As m cs) hI 1)
  have HC2 := Lib.hid (ccs_at I q (.slice At n ct) (.slice As m cs) hI 2)
  have zn : decide ((3000 : Int) < (n : Int)) = false := decide_eq_false (by omega)
  have zm : ¬ ((9000 : Int) < (m : Int)) := by omega
  clear ht hs hn hm hI hA hB hr hi0 hz0 hz1 hz2
  go_enter Try.func3, Try.ntmps3
  go_wp2_with (refine wpList_box_blk rfl 26 _ rfl (ccs I q (.slice At n ct) (.slice As m cs)) rfl ?_)
  intro v1 a1 a2 a3
  obtain ⟨g0, hg0⟩ : ∃ g, w.heap.size = g := ⟨_, rfl⟩
  rw [hg0] at a1 a2 a3 ⊢
  have A1 := Lib.hid a1
  have A3 : Hid (Below w.heap.size w v1) := by rw [hg0]; exact a3
  have c1 : v1.cell? ⟨g0, 17, none⟩ = some (.slice At n ct) := (a1.cell 17).trans HC1.out
  have c2 : v1.cell? ⟨g0, 18, none⟩ = some (.slice As m cs) := (a1.cell 18).trans HC2.out
  have c2' : (v1.alloc (.cells #[] 5)).cell? ⟨g0, 18, none⟩ = some (.slice As m cs) := by rw [World.cell?_alloc_past _ _ _ A1.out.lt]; exact c2
  clear a1 a2 a3 hg0
  go_wp2_with (at_builtin; refine wpList_app rfl _ _ 24 rfl 5 i0 Try.underlying24 HIN.out H0.out H1.out H2.out v1.heap.size w.heap.size _ _ [] s rfl (Own.lit 5 v1 _ 0 [] rfl (by omega) (by simp [bys])) rfl ((HSG.out.below A3.out).below ((Below.refl w.heap.size v1).alloc A3.out.size _)) (by have := HML.out; simp; omega) (by simp) ?_)
  intro v2 w2 hown hb
  have hb' : Below v1.heap.size v1 w2 := ((Below.refl _ v1).alloc (Nat.le_refl _) _).trans hb
  have B1 : Hid (Blk w2 g0 (ccs I q (.slice At n ct) (.slice As m cs)) 26) := A1.out.below hb' A1.out.lt
  have BB : Hid (Below w.heap.size w w2) := A3.out.trans (hb'.mono A3.out.size)
  have BO : Hid (Rd w2.heap.size w2 v2 s) := hown.rd
  have d0 : w2.cell? ⟨g0, 16, none⟩ = some (.int .u32 (q : Int)) := (B1.out.cell 16).trans HC0.out
  have d1 : w2.cell? ⟨g0, 17, none⟩ = some (.slice At n ct) := (B1.out.cell 17).trans HC1.out
  clear hown hb hb' A1 A3 c1 c2 c2'
  go_wp2_with (refine wpList_load_mid rfl 22 _ rfl g0 0 rfl (bys I) _ (ccs_rangeI B1.out) tu22 rfl H22.out ?_)
  refine (SA.out _ _ _ ((HT.out.below BB.out).more BB.out.size) BO.out).mono ?_
  rintro e w3 ⟨rfl, hb⟩
  have C1 : Hid (Blk w3 g0 (ccs I q (.slice At n ct) (.slice As m cs)) 26) := B1.out.below hb B1.out.lt
  have CB : Hid (Below w.heap.size w w3) := BB.out.trans (hb.mono BB.out.size)
  have CO : Hid (Rd w3.heap.size w3 v2 s) := (BO.out.below hb).more hb.size
  have hl3 : g0 < w3.heap.size := C1.out.lt
  clear hb B1 BB BO d0 d1
  go_wp2_with (refine wpList_alloc_blk rfl 28 rfl _ z24 ?_)
  intro w4 a1 a2 a3
  obtain ⟨g4, hg4⟩ : ∃ g, w3.heap.size = g := ⟨_, rfl⟩
  rw [hg4] at a1 a2 a3 hl3 ⊢
  have A4 := Lib.hid a1
  obtain ⟨t4, ht4⟩ : ∃ t, w4.setRow g4 (bys r).toArray = t := ⟨_, rfl⟩
  have hb4 : Below w3.heap.size w3 t4 := by rw [← ht4, hg4]; exact below_setRow' a3 (Nat.le_refl _) _
  have D1 : Hid (Blk t4 g0 (ccs I q (.slice At n ct) (.slice As m cs)) 26) := C1.out.below hb4 C1.out.lt
  have D4 : Hid (Blk t4 g4 (bys r) 28) := by rw [← ht4]; exact a1.setRow
  have DB : Hid (Below w.heap.size w t4) := CB.out.trans (hb4.mono CB.out.size)
  have DO : Hid (Rd t4.heap.size t4 v2 s) := (CO.out.below hb4).more hb4.size
  have e0 : t4.cell? ⟨g0, 16, none⟩ = some (.int .u32 (q : Int)) := (D1.out.cell 16).trans HC0.out
  have e1 : t4.cell? ⟨g0, 17, none⟩ = some (.slice At n ct) := (D1.out.cell 17).trans HC1.out
  have e2 : t4.cell? ⟨g0, 18, none⟩ = some (.slice As m cs) := (D1.out.cell 18).trans HC2.out
  clear a1 a2 a3 hb4 hg4 C1 CB CO
  go_wp2_with (first | (refine wpList_store_blk rfl 28 _ _ rfl g4 (bys r) z32 28 rfl rfl A4.out H24.out HLZ.out (bys_one' _) ?_; rw [ht4]; clear ht4) | (refine wpList_load_mid rfl 22 _ rfl g0 0 rfl (bys I) _ (ccs_rangeI D1.out) tu22 rfl H22.out ?_))
  refine (SB.out _ _ _ ((HT.out.below DB.out).more DB.out.size) ((HSG.out.below DB.out).more DB.out.size)).mono ?_
  rintro e w5 ⟨rfl, hb⟩
  have E4 : Hid (Blk w5 g4 (bys r) 28) := D4.out.below hb D4.out.lt
  have EB : Hid (Below w.heap.size w w5) := DB.out.trans (hb.mono DB.out.size)
  have EO : Hid (Rd w5.heap.size w5 v2 s) := (DO.out.below hb).more hb.size
  have E1 : Hid (Blk w5 g0 (ccs I q (.slice At n ct) (.slice As m cs)) 26) := D1.out.below hb D1.out.lt
  have hl5 : g4 < w5.heap.size := E4.out.lt
  clear hb D1 D4 DB DO e0 e1 e2 A4
  go_wp2_with (refine wpList_alloc_blk rfl 28 rfl _ z24 ?_)
  intro w6 a1 a2 a3
  obtain ⟨g6, hg6⟩ : ∃ g, w5.heap.size = g := ⟨_, rfl⟩
  rw [hg6] at a1 a2 a3 hl5 ⊢
  have A6 := Lib.hid a1
  obtain ⟨t6, ht6⟩ : ∃ t, w6.setRow g6 (bys r).toArray = t := ⟨_, rfl⟩
  have hb6 : Below w5.heap.size w5 t6 := by rw [← ht6, hg6]; exact below_setRow' a3 (Nat.le_refl _) _
  have F4 : Hid (Blk t6 g4 (bys r) 28) := E4.out.below hb6 E4.out.lt
  have F6 : Hid (Blk t6 g6 (bys r) 28) := by rw [← ht6]; exact a1.setRow
  have FB : Hid (Below w.heap.size w t6) := EB.out.trans (hb6.mono EB.out.size)
  have FO : Hid (Rd t6.heap.size t6 v2 s) := (EO.out.below hb6).more hb6.size
  have F1 : Hid (Blk t6 g0 (ccs I q (.slice At n ct) (.slice As m cs)) 26) := E1.out.below hb6 E1.out.lt
  clear a1 a2 a3 hb6 hg6 E4 EB EO E1
  go_wp2_with (first | (refine wpList_store_blk rfl 28 _ _ rfl g6 (bys r) z32 28 rfl rfl A6.out H24.out HLZ.out (bys_one' _) ?_; rw [ht6]; clear ht6))
  refine (alive_any _).mono ?_
  rintro e u ⟨rfl, hb⟩
  have G4 : Hid (Blk u g4 (bys r) 28) := F4.out.below hb F4.out.lt
  have G6 : Hid (Blk u g6 (bys r) 28) := F6.out.below hb F6.out.lt
  have GB : Hid (Below w.heap.size w u) := FB.out.trans (hb.mono FB.out.size)
  have fO := FO.out.below hb
  have fS := HSG.out.below GB.out
  have G1 := F1.out.below hb F1.out.lt
  have c18 : u.cell? ⟨g0, 18, none⟩ = some (.slice As m cs) := (G1.cell 18).trans HC2.out
  clear hb F4 F6 FB FO F1 A6 G1
  obtain ⟨A2, c2, rfl, _, _⟩ := fO.shape
  have t1 := run_string_rd 24 9 5 Try.underlying24 Try.underlying5 Try.underlying9 fO
  have t2 := run_string_rd 24 9 5 Try.underlying24 Try.underlying5 Try.underlying9 fS
  rw [HML.out] at t1 ⊢
  have heq1 := eq24 r HR.out u
  clear fO fS
  go_wp2_with (first | (refine wpList_load_blkG 28 _ rfl g4 rfl (bys r) 28 G4.out 32 5 tu24 H24.out (by rfl) ?_) | (refine wpList_load_blkG 28 _ rfl g6 rfl (bys r) 28 G6.out 32 5 tu24 H24.out (by rfl) ?_))
  go_ret
  exact ⟨rfl, GB.out⟩

theorem cand_all (I : List UInt8) (q : Nat) (tv : Value) (text : List UInt8) (sv : Value) (s : List UInt8) (w : World) (hI : I.length = 16) (hq : q < 4294967296) (ht : Rd w.heap.size w tv text) (hs : Rd w.heap.size w sv s) : Calls Try.prog 3 #[.agg (ccs I q tv sv).toArray] w (One (.bool true) w) := by
  by_cases h : 3000 < text.length ∨ 9000 < s.length
  · exact cand_big I text s q tv sv w hI ht hs h
  · exact cand_small I text s q tv sv w hI hq ht hs (by omega) (by omega)
end Go.Proofs.Ytnemkefmlffigaa
