/-
  Plain facts on one-time signatures, over lists of bytes, of no program: public hash, signature, candidate; the candidate of a signature is the public hash. No condition beyond those of each line.
  Package ots: Public, for every key whose W is a width.
  Package ots: Sign, for every key and every text of at most 100000 bytes.
-/
import Derived.Test.YtllncnnigjgadaaGreatOB
import Derived.Test.YtllncnnigjgadaaGreatMs
namespace Go.Proofs.YtllncnnigjgadaaGreat

/-- Rows of 32 bytes, n of them, one behind the other. -/
def rowsTo (f : Nat → List UInt8) (n : Nat) : List UInt8 := (List.range n).flatMap f
theorem rowsTo_succ (f : Nat → List UInt8) (n : Nat) : rowsTo f (n + 1) = rowsTo f n ++ f n := by simp [rowsTo, List.range_succ]
theorem rowsTo_length (f : Nat → List UInt8) (hf : ∀ i, (f i).length = 32) (n : Nat) : (rowsTo f n).length = 32 * n := by
  induction n with
  | zero => rfl
  | succ n ih => rw [rowsTo_succ, List.length_append, ih, hf]; omega
theorem rowsTo_congr (f g : Nat → List UInt8) (n : Nat) (h : ∀ i, i < n → f i = g i) : rowsTo f n = rowsTo g n := by
  induction n with
  | zero => rfl
  | succ n ih => rw [rowsTo_succ, rowsTo_succ, ih (fun i hi => h i (by omega)), h n (by omega)]
theorem rowsTo_at (f : Nat → List UInt8) (hf : ∀ i, (f i).length = 32) (n i : Nat) (hi : i < n) : ((rowsTo f n).drop (32 * i)).take 32 = f i := by
  induction n with
  | zero => omega
  | succ n ih =>
    rw [rowsTo_succ]
    have hl := rowsTo_length f hf n
    by_cases h : i < n
    · rw [List.drop_append_of_le_length (by omega), List.take_append_of_le_length (by rw [List.length_drop]; omega)]
      exact ih h
    · obtain rfl : i = n := by omega
      rw [List.drop_append, List.drop_of_length_le (by omega), List.nil_append, hl, Nat.sub_self, List.drop_zero, List.take_of_length_le (by rw [hf]; omega)]

theorem hsec_length (p seed : List UInt8) (i : Nat) : (hsec p seed i).length = 32 := hash_length _
theorem hrnd_length (p seed : List UInt8) : (hrnd p seed).length = 32 := hash_length _
theorem hmsg_length (p r text : List UInt8) : (hmsg p r text).length = 32 := hash_length _
theorem hpub_length (p ends : List UInt8) : (hpub p ends).length = 32 := hash_length _

/-- The end of chain i. -/
def endF (p seed : List UInt8) (k i : Nat) : List UInt8 := chn p i 0 (gr k) (hsec p seed i)
theorem endF_length (p seed : List UInt8) (k i : Nat) : (endF p seed k i).length = 32 := chn_length _ _ _ _ _ (hsec_length _ _ _)
/-- The public hash. -/
def pubL (p seed : List UInt8) (k : Nat) : List UInt8 := hpub p (rowsTo (endF p seed k) (mny k))
/-- What is signed of digit i. -/
def sgnF (p seed : List UInt8) (D : List Nat) (i : Nat) : List UInt8 := chn p i 0 (D.getD i 0) (hsec p seed i)
theorem sgnF_length (p seed : List UInt8) (D : List Nat) (i : Nat) : (sgnF p seed D i).length = 32 := chn_length _ _ _ _ _ (hsec_length _ _ _)
/-- The digits that are signed. -/
def sdig (p seed text : List UInt8) (k : Nat) : List Nat := allD (hmsg p (hrnd p seed) text) k
/-- The signature. -/
def sigL (p seed text : List UInt8) (k : Nat) : List UInt8 := be 4 (typ k) ++ hrnd p seed ++ rowsTo (sgnF p seed (sdig p seed text k)) (mny k)
theorem sigL_length (p seed text : List UInt8) (k : Nat) : (sigL p seed text k).length = lng k := by
  unfold sigL lng
  rw [List.length_append, List.length_append, be_length, hrnd_length, rowsTo_length _ (sgnF_length _ _ _)]
  omega
/-- Hash i of a signature. -/
def hAt (s : List UInt8) (i : Nat) : List UInt8 := (s.drop (4 + i * 32)).take 32
/-- Where chain i of a signature ends. -/
def cndF (p s : List UInt8) (D : List Nat) (k i : Nat) : List UInt8 := chn p i (D.getD i 0) (gr k - D.getD i 0) (hAt s (i + 1))
/-- The digits that a signature is of. -/
def cdig (p s text : List UInt8) (k : Nat) : List Nat := allD (hmsg p (hAt s 0) text) k
/-- The candidate. -/
def cndL (p s text : List UInt8) (k : Nat) : List UInt8 := hpub p (rowsTo (cndF p s (cdig p s text k) k) (mny k))

theorem hAt_sig0 (p seed text : List UInt8) (k : Nat) : hAt (sigL p seed text k) 0 = hrnd p seed := by
  unfold hAt sigL
  rw [List.append_assoc, List.drop_append, List.drop_of_length_le (by rw [be_length]; omega), List.nil_append, be_length]
  simp only [Nat.zero_mul, Nat.add_zero, Nat.sub_self, List.drop_zero]
  rw [List.take_append_of_le_length (by rw [hrnd_length]; omega), List.take_of_length_le (by rw [hrnd_length]; omega)]
theorem hAt_sig (p seed text : List UInt8) (k i : Nat) (hi : i < mny k) : hAt (sigL p seed text k) (i + 1) = sgnF p seed (sdig p seed text k) i := by
  unfold hAt sigL
  rw [List.drop_append, List.drop_of_length_le (by rw [List.length_append, be_length, hrnd_length]; omega), List.nil_append, List.length_append, be_length, hrnd_length, show 4 + (i + 1) * 32 - (4 + 32) = 32 * i by omega]
  exact rowsTo_at _ (sgnF_length _ _ _) _ _ hi
theorem digit_le (l : List UInt8) (k i : Nat) : (allD l k).getD i 0 ≤ gr k := by
  have := allD_lt l k i
  unfold gr; omega
theorem cnd_sig (p seed text : List UInt8) (k : Nat) : cndL p (sigL p seed text k) text k = pubL p seed k := by
  unfold cndL pubL cdig
  rw [hAt_sig0]
  congr 1
  refine rowsTo_congr _ _ _ (fun i hi => ?_)
  unfold cndF endF
  rw [hAt_sig p seed text k i hi]
  unfold sgnF
  have hd := digit_le (hmsg p (hrnd p seed) text) k i
  unfold sdig
  generalize (allD (hmsg p (hrnd p seed) text) k).getD i 0 = d at hd ⊢
  have := chn_add p i 0 d (gr k - d) (hsec p seed i)
  rw [Nat.zero_add, show d + (gr k - d) = gr k by omega] at this
  exact this
end Go.Proofs.YtllncnnigjgadaaGreat

namespace Go.Proofs.YtllncnnigjgadaaGreat
open Go.RowKit

/-- A new array of 32 bytes. -/
def NewB (b : Nat) : Value → World → Prop := fun v w => ∃ g, v = .pointer (some ⟨g, 0, none⟩) ∧ Blk w g z32 30 ∧ b ≤ g
theorem NewB.keep {b : Nat} {v : Value} {w w' : World} (h : NewB b v w) (hb : Below w.heap.size w w') : NewB b v w' := by
  obtain ⟨g, hv, h1, h2⟩ := h
  exact ⟨g, hv, h1.below hb h1.lt, h2⟩

/-- What the loop of Public keeps. -/
def PubAt (w : World) (I seed : List UInt8) (q k g0 gr' gp gs b : Nat) (v : Value) (l : List UInt8) (wr : World) : Prop :=
  Blk wr g0 (kcs I q seed (k : Int)) 95 ∧ Blk wr gr' z32 30 ∧ Blk wr gp (bys (pre20 I q)) 102 ∧ Blk wr gs (shp k) 105 ∧ Own 5 wr b v l ∧ b ≤ wr.heap.size ∧ Below w.heap.size w wr
theorem PubAt.below {w : World} {I seed : List UInt8} {q k g0 gr' gp gs b : Nat} {v : Value} {l : List UInt8} {wr w' : World} (h : PubAt w I seed q k g0 gr' gp gs b v l wr) (hb : Below wr.heap.size wr w') : PubAt w I seed q k g0 gr' gp gs b v l w' := by
  obtain ⟨h1, h2, h3, h4, h5, h6, h7⟩ := h
  exact ⟨h1.below hb h1.lt, h2.below hb h2.lt, h3.below hb h3.lt, h4.below hb h4.lt, h5.below hb (Nat.le_refl _), Nat.le_trans h6 hb.size, h7.trans (hb.mono h7.size)⟩

set_option maxRecDepth 100000 in
set_option maxHeartbeats 2000000 in
theorem publicX_yes (I seed : List UInt8) (q k : Nat) (w : World) (hI : I.length = 16) (hs : seed.length = 32) (hq : q < 4294967296) (hk : Wd k) :
    Calls Tryz.prog 85 #[.agg (kcs I q seed (k : Int)).toArray] w (TwoD (.agg (bys (pubL (pre20 I q) seed k)).toArray) (.int .i64 0) w) := by
  obtain ⟨i0, hi, hz0, hz1, hz2⟩ := info_parts info5
  have HIN := Lib.hid hi
  have H0 := Lib.hid hz0
  have H1 := Lib.hid hz1
  have H2 := Lib.hid hz2
  have HI := Lib.hid hI
  have HS := Lib.hid hs
  have HK := Lib.hid hk
  have HP := Lib.hid (pre20_length I q hI)
  have hm := mny_le k hk
  obtain ⟨_, _, _, hG5⟩ := hk.le
  obtain ⟨M, hM⟩ : ∃ M, mny k = M := ⟨_, rfl⟩
  obtain ⟨G, hG⟩ : ∃ G, gr k = G := ⟨_, rfl⟩
  have HM := Lib.hid hM
  have HGE := Lib.hid hG
  have HC1 : Hid ((shp k)[1]? = some (.int .i64 (M : Int))) := by show _ = _; rw [← hM]; rfl
  have HC2 : Hid ((shp k)[2]? = some (.int .i64 (G : Int))) := by show _ = _; rw [← hG]; rfl
  rw [hM] at hm
  rw [hG] at hG5
  have H22 : Hid ((Tryz.prog.info? 29).map (·.size) = some (bys I).length) := by show _ = _; rw [bys_length, hI]; exact s22
  have H26 : Hid ((Tryz.prog.info? 95).map (·.size) = some (kcs I q seed (k : Int)).length) := by show _ = _; rw [kcs_length I seed q _ hI hs]; exact s26
  have H67 : Hid ((Tryz.prog.info? 102).map (·.size) = some (bys (pre20 I q)).length) := by show _ = _; rw [bys_length, pre20_length I q hI]; exact s67
  have HL67 : Hid (z20.length = (bys (pre20 I q)).length) := by show _ = _; rw [bys_length, pre20_length I q hI, z20_length]
  have H24 : Hid ((Tryz.prog.info? 30).map (·.size) = some (bys (pubL (pre20 I q) seed k)).length) := by show _ = _; rw [bys_length]; unfold pubL; rw [hpub_length]; exact s24
  have HLZ : Hid (z32.length = (bys (pubL (pre20 I q) seed k)).length) := by show _ = _; rw [bys_length, z32_length]; unfold pubL; rw [hpub_length]
  obtain ⟨d26, hu26, hd26⟩ := row26
  have HU2 := Lib.hid hu26
  have HD2 := Lib.hid hd26
  clear hI hs hk hi hz0 hz1 hz2 hM hG hu26 hd26
  go_enter Tryz.func85, Tryz.ntmps85
  go_wp2_with (refine wpList_box_blk rfl 95 _ rfl (kcs I q seed (k : Int)) rfl ?_)
  intro v1 a1 a2 a3
  have A1 := Lib.hid a1
  have A2 := Lib.hid a2
  have A3 := Lib.hid a3
  clear a1 a2 a3
  go_wp2_with (refine wpList_alloc_blk rfl 30 rfl _ z24 ?_)
  intro v2 a1 a2 a3
  rw [A2.out] at a1 a2 a3 ⊢
  obtain ⟨g0, hg0⟩ : ∃ g, w.heap.size = g := ⟨_, rfl⟩
  obtain ⟨g1, hg1⟩ : ∃ g, g0 + 1 = g := ⟨_, rfl⟩
  have G1 : Hid (Blk v2 g0 (kcs I q seed (k : Int)) 95) := by rw [← hg0]; exact A1.out.below a3 (by omega)
  have G2 : Hid (Blk v2 g1 z32 30) := by rw [← hg1, ← hg0]; exact a1
  have GB : Hid (Below w.heap.size w v2) := A3.out.trans (a3.mono (by omega))
  have hs2 : g1 < v2.heap.size := by omega
  have hw0 : w.heap.size ≤ g0 := by omega
  have hg01 : g0 < g1 := by omega
  rw [hg0, hg1]
  clear a1 a2 a3 A1 A2 A3 hg0 hg1
  go_wp2
  refine wp_scope_goto 0 rfl ?_
  have cq := (G1.out.cell 16).trans (kcs_q I seed q (k : Int) HI.out)
  go_wp2_with (refine wpList_load_mid rfl 29 _ rfl g0 0 rfl (bys I) _ (kcs_rangeI G1.out) tu22 rfl H22.out ?_)
  clear cq
  refine (prefixOf_any I q _ HI.out hq).mono ?_
  rintro e w1 ⟨rfl, hb⟩
  have E1 : Hid (Blk w1 g0 (kcs I q seed (k : Int)) 95) := G1.out.below hb (by omega)
  have E2 : Hid (Blk w1 g1 z32 30) := G2.out.below hb (by omega)
  have EB : Hid (Below w.heap.size w w1) := GB.out.trans (hb.mono (by omega))
  have hs1 : g1 < w1.heap.size := Nat.lt_of_lt_of_le hs2 hb.size
  clear hb G1 G2 GB hs2
  go_wp2_with (refine wpList_alloc_blk rfl 102 rfl _ zi67 ?_)
  intro w2 a1 a2 a3
  obtain ⟨gp, hgp⟩ : ∃ g, w1.heap.size = g := ⟨_, rfl⟩
  rw [hgp] at a1 a2 a3 hs1 ⊢
  have A1 := Lib.hid a1
  obtain ⟨t2, ht2⟩ : ∃ t, w2.setRow gp (bys (pre20 I q)).toArray = t := ⟨_, rfl⟩
  have L1 : Hid (Blk t2 g0 (kcs I q seed (k : Int)) 95) := by rw [← ht2]; exact (E1.out.below a3 (by omega)).setRowOther (by omega)
  have L2 : Hid (Blk t2 g1 z32 30) := by rw [← ht2]; exact (E2.out.below a3 (by omega)).setRowOther (by omega)
  have L3 : Hid (Blk t2 gp (bys (pre20 I q)) 102) := by rw [← ht2]; exact a1.setRow
  have LB : Hid (Below w.heap.size w t2) := by rw [← ht2]; exact below_setRow' (EB.out.trans (a3.mono (by omega))) (by omega) _
  have cw := (L1.out.cell 49).trans (kcs_z I seed q (k : Int) HI.out HS.out)
  clear a1 a2 a3 E1 E2 EB hgp
  go_wp2_with (first | (refine wpList_store_blk rfl 102 _ _ rfl gp (bys (pre20 I q)) z20 102 rfl rfl A1.out H67.out HL67.out (bys_one' _) ?_; rw [ht2]))
  clear cw ht2 A1
  refine (shapeOf_yes k _ HK.out).mono ?_
  rintro e w3 ⟨rfl, hb⟩
  have M1 : Hid (Blk w3 g0 (kcs I q seed (k : Int)) 95) := L1.out.below hb L1.out.lt
  have M2 : Hid (Blk w3 g1 z32 30) := L2.out.below hb L2.out.lt
  have M3 : Hid (Blk w3 gp (bys (pre20 I q)) 102) := L3.out.below hb L3.out.lt
  have MB : Hid (Below w.heap.size w w3) := LB.out.trans (hb.mono LB.out.size)
  have hs3 : gp < w3.heap.size := M3.out.lt
  clear hb L1 L2 L3 LB
  go_wp2_with (refine wpList_alloc_blk rfl 105 rfl _ zi57 ?_)
  intro w4 a1 a2 a3
  obtain ⟨gs, hgs⟩ : ∃ g, w3.heap.size = g := ⟨_, rfl⟩
  rw [hgs] at a1 a2 a3 hs3 ⊢
  have A1 := Lib.hid a1
  obtain ⟨t4, ht4⟩ : ∃ t, w4.setRow gs (shp k).toArray = t := ⟨_, rfl⟩
  obtain ⟨b, hbE⟩ : ∃ b, t4.heap.size = b := ⟨_, rfl⟩
  have K0 : Hid (PubAt w I seed q k g0 g1 gp gs b (.slice none 0 0) (rowsTo (endF (pre20 I q) seed k) 0) t4) := by
    refine ⟨?_, ?_, ?_, ?_, Own.nil 5 _ _, by omega, ?_⟩
    · rw [← ht4]; exact (M1.out.below a3 (by omega)).setRowOther (by omega)
    · rw [← ht4]; exact (M2.out.below a3 (by omega)).setRowOther (by omega)
    · rw [← ht4]; exact (M3.out.below a3 (by omega)).setRowOther (by omega)
    · rw [← ht4]; exact a1.setRow
    · rw [← ht4]; exact below_setRow' (MB.out.trans (a3.mono (by omega))) (by omega) _
  have hgs1 : gs < b := by rw [← hbE]; exact K0.out.2.2.2.1.lt
  have c1 : t4.cell? ⟨gs, 1, none⟩ = some (.int .i64 (M : Int)) := (K0.out.2.2.2.1.cell 1).trans HC1.out
  clear a1 a2 a3 M1 M2 M3 MB hgs hbE
  go_wp2_with (first | (refine wpList_store_blk rfl 105 _ _ rfl gs (shp k) shp0 105 rfl rfl A1.out s57 rfl (shp_one k) ?_; rw [ht4]))
  clear c1 ht4 A1
  go_loopw [4, 25] (fun v x wr => ∃ i : Nat, i ≤ M ∧ x = .int .i64 (i : Int) ∧ Hid (PubAt w I seed q k g0 g1 gp gs b v (rowsTo (endF (pre20 I q) seed k) i) wr)) (fun _ x _ => M - (intOf x).toNat)
  case atStart => exact ⟨0, by omega, rfl, K0⟩
  case round =>
    clear K0
    obtain ⟨i, hi, rfl, KK⟩ := hrel
    have hel : (rowsTo (endF (pre20 I q) seed k) i).length = 32 * i := rowsTo_length _ (endF_length _ _ _) _
    obtain ⟨A4, c4, hv4, hc4, hm4⟩ := KK.out.2.2.2.2.1.rd.shape
    rw [hel] at hv4 hc4
    subst hv4
    unfold maxLen at hm4
    have HEL := Lib.hid hel
    clear hel
    by_cases hi2 : i < M
    · have zi : (i : Int) < (M : Int) := by omega
      have hi3 : i < 65536 := by omega
      have hwg0 : g0 < wr.heap.size := KK.out.1.lt
      have hwgp : gp < wr.heap.size := KK.out.2.2.1.lt
      have hwgs : gs < wr.heap.size := KK.out.2.2.2.1.lt
      have H24e : Hid ((Tryz.prog.info? 30).map (·.size) = some (bys (endF (pre20 I q) seed k i)).length) := by show _ = _; rw [bys_length, endF_length]; exact s24
      have HLZe : Hid (z32.length = (bys (endF (pre20 I q) seed k i)).length) := by show _ = _; rw [bys_length, endF_length, z32_length]
      go_wp2
      refine wp_region_rely2 9 1 (fun x => ⟨#[Value.agg (kcs I q seed ↑k).toArray, Value.pointer (some { block := g0, off := 0 }), Value.pointer (some { block := g1, off := 0 }), Value.int IntKind.i64 0, Value.slice A4 (32 * i) c4, Value.pointer (some { block := gp, off := 0 }), Value.pointer (some { block := gs, off := 0 }), Value.int IntKind.i64 0, Value.int IntKind.i64 ↑i, x 8, Value.pointer (some { block := g0, off := 0 }), Value.agg (bys I).toArray, Value.pointer (some { block := g0, off := 16 }), Value.int IntKind.u32 ↑q, Value.agg (bys (pre20 I q)).toArray, Value.tuple #[Value.agg (shp k).toArray, Value.int IntKind.i64 0], Value.pointer (some { block := g0, off := 49 }), Value.int IntKind.i64 ↑k, Value.tuple #[Value.agg (shp k).toArray, Value.int IntKind.i64 0], Value.agg (shp k).toArray, Value.int IntKind.i64 0, Value.int IntKind.i64 0, Value.bool false, Value.pointer (some { block := gs, off := 1 }), Value.int IntKind.i64 ↑M, Value.int IntKind.i64 ↑i, Value.bool true, Value.int IntKind.i64 ↑i, x 0, x 1, x 2, x 3, x 4, x 5, x 6, x 7, u36, u37, u38, u39, undef, undef, undef, undef, undef], []⟩) (fun jj => ([eqV (.agg (bys (pre20 I q)).toArray), eqV (.int .i64 (i : Int)), eqV (.pointer (some ⟨gs, 2, none⟩)), eqV (.int .i64 (G : Int)), eqV (.agg (kcs I q seed (k : Int)).toArray), eqV (.int .i64 (i : Int)), (eqV (.agg (bys (hsec (pre20 I q) seed i)).toArray)), (eqV (.agg (bys (endF (pre20 I q) seed k i)).toArray)), (NewB wr.heap.size)] : List (Value → World → Prop)).getD jj (fun _ _ => True)) rfl ⟨fun kk => [_, _, _, _, _, _, _, _, _].getD kk undef, rfl⟩ (by kernel_rfl) (by kernel_rfl) ?steps ?fin
      case steps =>
        refine StepsAt.val 0 (.agg (bys (pre20 I q)).toArray) rfl (fun _ _ => rfl) rfl rfl (fun x w1 hb hd => ?_) ?_
        · exact run_load_blk 102 (.tmp 5) rfl gp rfl (bys (pre20 I q)) 102 (KK.out.2.2.1.below hb hwgp) 20 5 tu67 H67.out
        refine StepsAt.val 1 (.int .i64 (i : Int)) rfl (fun _ _ => rfl) rfl rfl (fun x w1 hb hd => ?_) ?_
        · first | (go_simp; done) | (go_simp; rfl)
        refine StepsAt.val 2 (.pointer (some ⟨gs, 2, none⟩)) rfl (fun _ _ => rfl) rfl rfl (fun x w1 hb hd => ?_) ?_
        · first | (go_simp; done) | (go_simp; rfl)
        refine StepsAt.val 3 (.int .i64 (G : Int)) rfl (fun _ _ => rfl) rfl rfl (fun x w1 hb hd => ?_) ?_
        · have h2 : x 2 = .pointer (some ⟨gs, 2, none⟩) := hd 2 (by kernel_rfl)
          have c := ((KK.out.2.2.2.1.below hb hwgs).cell 2).trans HC2.out
          rw [h2]
          first | (go_simp; done) | (go_simp; rfl)
        refine StepsAt.val 4 (.agg (kcs I q seed (k : Int)).toArray) rfl (fun _ _ => rfl) rfl rfl (fun x w1 hb hd => ?_) ?_
        · exact run_load_blkU 95 (.tmp 1) rfl g0 rfl (kcs I q seed (k : Int)) 95 (KK.out.1.below hb hwg0) d26 HU2.out HD2.out H26.out
        refine StepsAt.val 5 (.int .i64 (i : Int)) rfl (fun _ _ => rfl) rfl rfl (fun x w1 hb hd => ?_) ?_
        · first | (go_simp; done) | (go_simp; rfl)
        refine StepsAt.cons 6 (fun _ _ _ h hb => h) (fun _ _ => rfl) rfl rfl (fun x w1 hb hd K hK => ?_) ?_
        · have h4 : Hid (x 4 = .agg (kcs I q seed (k : Int)).toArray) := hd 4 (by kernel_rfl)
          have h5 : Hid (x 5 = .int .i64 (i : Int)) := hd 5 (by kernel_rfl)
          go_simp
          refine calls_args (args2 := #[.agg (kcs I q seed (k : Int)).toArray, .int .i64 (i : Int)]) (by rw [h4.out, h5.out]) ?_
          refine (secret_any I seed q i (k : Int) _ HI.out HS.out hq hi3).mono ?_
          rintro e w2 ⟨rfl, hb2⟩
          exact hK.out _ _ hb2 rfl
        refine StepsAt.cons 7 (fun _ _ _ h hb => h) (fun _ _ => rfl) rfl rfl (fun x w1 hb hd K hK => ?_) ?_
        · have h0 : Hid (x 0 = .agg (bys (pre20 I q)).toArray) := hd 0 (by kernel_rfl)
          have h1 : Hid (x 1 = .int .i64 (i : Int)) := hd 1 (by kernel_rfl)
          have h3 : Hid (x 3 = .int .i64 (G : Int)) := hd 3 (by kernel_rfl)
          have h6 : Hid (x 6 = .agg (bys (hsec (pre20 I q) seed i)).toArray) := hd 6 (by kernel_rfl)
          go_simp
          refine calls_args (args2 := #[.agg (bys (pre20 I q)).toArray, .int .i64 (i : Int), .int .i64 ((0 : Nat) : Int), .int .i64 ((0 + gr k : Nat) : Int), .agg (bys (hsec (pre20 I q) seed i)).toArray]) (by rw [h0.out, h1.out, h3.out, h6.out, Nat.zero_add, HGE.out]; rfl) ?_
          refine (chain_any (pre20 I q) (hsec (pre20 I q) seed i) i 0 (gr k) _ HP.out (hsec_length _ _ _) hi3 (by rw [HGE.out]; omega)).mono ?_
          rintro e w2 ⟨rfl, hb2⟩
          exact hK.out _ _ hb2 rfl
        refine StepsAt.cons 8 (fun _ _ _ h hb => NewB.keep h hb) (fun _ _ => rfl) rfl rfl (fun x w1 hb hd K hK => ?_) ?_
        · refine wp_of_list rfl (wpList_alloc_blk rfl 30 rfl _ z24 ?_)
          intro w2 b1 b2 b3
          exact hK.out _ _ b3 ⟨_, rfl, b1, hb.size⟩
        exact StepsAt.done
      case fin =>
        intro x w1 hb hd
        have hr : x 7 = .agg (bys (endF (pre20 I q) seed k i)).toArray := hd 7 (by omega)
        obtain ⟨g, e8, hg8, hgb⟩ : NewB wr.heap.size (x 8) w1 := hd 8 (by omega)
        refine AnyTill.any (S := fun _ => True) (m := 10) _ _ _ _ ?_
        refine AnyTill.one (i := 9) (by kernel_rfl) rfl (by rfl) (fun K hK => ?_)
        refine wp_store_blk 30 (.tmp 9) (.tmp 35) rfl g (bys (endF (pre20 I q) seed k i)) z32 30 e8 hr hg8 H24e.out HLZe.out (bys_one' _) ?_
        refine hK.out _ _ (.inr trivial) ?_
        clear hK K
        refine AnyTill.done (by kernel_rfl) ?_
        refine NoPanic.normal ?_
        simp only [Act.put]
        have hbF : Below wr.heap.size wr (w1.setRow g (bys (endF (pre20 I q) seed k i)).toArray) := below_setRow' hb hgb _
        have KF : Hid (PubAt w I seed q k g0 g1 gp gs b (.slice A4 (32 * i) c4) (rowsTo (endF (pre20 I q) seed k) i) (w1.setRow g (bys (endF (pre20 I q) seed k i)).toArray)) := KK.out.below hbF
        have LG : Hid (Blk (w1.setRow g (bys (endF (pre20 I q) seed k i)).toArray) g (bys (endF (pre20 I q) seed k i)) 30) := hg8.setRow
        have hgF : g < (w1.setRow g (bys (endF (pre20 I q) seed k i)).toArray).heap.size := LG.out.lt
        generalize w1.setRow g (bys (endF (pre20 I q) seed k i)).toArray = wf at KF LG hgF ⊢
        rw [e8]
        clear hd hr hbF KK hb hg8 e8
        go_wp2_with (at_builtin; refine wpList_app rfl _ _ 22 rfl 5 i0 Tryz.underlying22 HIN.out H0.out H1.out H2.out b wf.heap.size _ _ (rowsTo (endF (pre20 I q) seed k) i) (endF (pre20 I q) seed k i) rfl KF.out.2.2.2.2.1 rfl (Rd.blk 32 (endF_length _ _ _ _) LG.out hgF (by omega)) (by rw [HEL.out, endF_length]; omega) KF.out.2.2.2.2.2.1 ?_)
        intro v5 w5 hown5 hb5
        have K5 : Hid (PubAt w I seed q k g0 g1 gp gs b v5 (rowsTo (endF (pre20 I q) seed k) (i + 1)) w5) := by
          obtain ⟨f1, f2, f3, f4, f5, f6, f7⟩ := KF.out
          rw [rowsTo_succ]
          exact ⟨f1.below hb5 (by omega), f2.below hb5 (by omega), f3.below hb5 (by omega), f4.below hb5 hgs1, hown5, Nat.le_trans f6 hb5.size, f7.trans (hb5.mono (by omega))⟩
        clear hown5 hb5 KF LG hgF
        go_wp2
        go_roundw
        case rel => exact ⟨i + 1, by omega, by go_num, K5⟩
        case measure => simp [intOf]; omega
    · have hiM : i = M := by omega
      subst hiM
      have zi : ¬ ((i : Int) < (i : Int)) := by omega
      have N1 : Hid (Blk wr gp (bys (pre20 I q)) 102) := KK.out.2.2.1
      have N2 : Hid (Blk wr g1 z32 30) := KK.out.2.1
      have NO : Hid (Own 5 wr b (.slice A4 (32 * i) c4) (rowsTo (endF (pre20 I q) seed k) i)) := KK.out.2.2.2.2.1
      have NB : Hid (Below w.heap.size w wr) := KK.out.2.2.2.2.2.2
      clear KK
      go_wp2_with (refine wpList_load_blk rfl 102 _ rfl gp rfl (bys (pre20 I q)) 102 N1.out 20 5 tu67 H67.out ?_)
      refine (publicHash_any (pre20 I q) (rowsTo (endF (pre20 I q) seed k) i) _ _ HP.out NO.out.rd (by rw [HEL.out]; omega)).mono ?_
      rintro e w6 ⟨rfl, hb⟩
      have X2 : Hid (Blk w6 g1 z32 30) := N2.out.below hb N2.out.lt
      have XB : Hid (Below w.heap.size w w6) := NB.out.trans (hb.mono NB.out.size)
      rw [show hpub (pre20 I q) (rowsTo (endF (pre20 I q) seed k) i) = pubL (pre20 I q) seed k by unfold pubL; rw [HM.out]]
      clear hb N1 N2 NO NB
      go_wp2_with (refine wpList_store_blk rfl 30 _ _ rfl g1 (bys (pubL (pre20 I q) seed k)) z32 30 rfl rfl X2.out H24.out HLZ.out (bys_one' _) ?_)
      rw [jump_ret]
      refine bodyPost_ret (v := .tuple #[.agg (bys (pubL (pre20 I q) seed k)).toArray, .int .i64 0]) ?_ rfl ?_
      · exact ret_blk2 rfl _ _ g1 30 _ _ rfl rfl X2.out.setRow 32 5 tu24 H24.out
      · exact ⟨rfl, below_setRow' XB.out (by omega) _⟩
end Go.Proofs.YtllncnnigjgadaaGreat

namespace Go.Proofs.YtllncnnigjgadaaGreat
open Go.RowKit

/-- The digits that were answered, and OK. -/
def RdIN (D : List Nat) : Value → World → Prop := fun v w => RdI w.heap.size w v D
theorem RdIN.keep {D : List Nat} {v : Value} {w w' : World} (h : RdIN D v w) (hb : Below w.heap.size w w') : RdIN D v w' := (RdI.below h hb).more hb.size
def AllN (D : List Nat) : Value → World → Prop := fun v w => ∃ u, v = .tuple #[u, .int .i64 0] ∧ RdIN D u w
theorem AllN.keep {D : List Nat} {v : Value} {w w' : World} (h : AllN D v w) (hb : Below w.heap.size w w') : AllN D v w' := by
  obtain ⟨u, hv, h⟩ := h
  exact ⟨u, hv, h.keep hb⟩
/-- A slice of the call's own, from block b on. -/
def OwnN (b : Nat) (l : List UInt8) : Value → World → Prop := fun v w => Own 5 w b v l
theorem OwnN.keep {b : Nat} {l : List UInt8} {v : Value} {w w' : World} (h : OwnN b l v w) (hb : Below w.heap.size w w') : OwnN b l v w' := Own.below h hb (Nat.le_refl _)

/-- What the loop of Sign keeps. -/
def SigAt (w : World) (I seed : List UInt8) (q k g0 gp b : Nat) (D : List Nat) (dv v : Value) (l : List UInt8) (wr : World) : Prop :=
  Blk wr g0 (kcs I q seed (k : Int)) 95 ∧ Blk wr gp (bys (pre20 I q)) 102 ∧ RdI b wr dv D ∧ Own 5 wr b v l ∧ b ≤ wr.heap.size ∧ Below w.heap.size w wr
theorem SigAt.below {w : World} {I seed : List UInt8} {q k g0 gp b : Nat} {D : List Nat} {dv v : Value} {l : List UInt8} {wr w' : World} (h : SigAt w I seed q k g0 gp b D dv v l wr) (hb : Below wr.heap.size wr w') : SigAt w I seed q k g0 gp b D dv v l w' := by
  obtain ⟨h1, h2, h3, h4, h5, h6⟩ := h
  exact ⟨h1.below hb h1.lt, h2.below hb h2.lt, h3.below (hb.mono h5), h4.below hb (Nat.le_refl _), Nat.le_trans h5 hb.size, h6.trans (hb.mono h6.size)⟩

set_option maxRecDepth 100000 in
set_option maxHeartbeats 2000000 in
theorem signX_yes (I seed text : List UInt8) (q k : Nat) (tv : Value) (w : World) (hI : I.length = 16) (hs : seed.length = 32) (hq : q < 4294967296) (hk : Wd k) (ht : Rd w.heap.size w tv text) (hl : text.length ≤ 100000) : Calls Tryz.prog 49 #[.agg (kcs I q seed (k : Int)).toArray, tv] w (fun e w' => ∃ v, e = .returned (.tuple #[v, .int .i64 0]) ∧ Own 5 w' w.heap.size v (sigL (pre20 I q) seed text k) ∧ Below w.heap.size w w') := by
  obtain ⟨i0, hi, hz0, hz1, hz2⟩ := info_parts info5
  have HIN := Lib.hid hi
  have H0 := Lib.hid hz0
  have H1 := Lib.hid hz1
  have H2 := Lib.hid hz2
  have HI := Lib.hid hI
  have HS := Lib.hid hs
  have HK := Lib.hid hk
  have HT := Lib.hid ht
  have HP := Lib.hid (pre20_length I q hI)
  have hm := mny_le k hk
  obtain ⟨_, _, _, hG5⟩ := hk.le
  obtain ⟨D, hD⟩ : ∃ D, sdig (pre20 I q) seed text k = D := ⟨_, rfl⟩
  obtain ⟨M, hM⟩ : ∃ M, mny k = M := ⟨_, rfl⟩
  obtain ⟨L, hL⟩ : ∃ L, lng k = L := ⟨_, rfl⟩
  obtain ⟨Y, hY⟩ : ∃ Y, typ k = Y := ⟨_, rfl⟩
  have hY4 : Y < 4294967296 := by rw [← hY]; rcases hk with rfl | rfl | rfl | rfl <;> decide
  have hM0 : 0 < M := by rw [← hM]; rcases hk with rfl | rfl | rfl | rfl <;> decide
  have hL9 : L ≤ 10000 := by rw [← hL]; unfold lng; omega
  have hDl : D.length = M := by rw [← hD, ← hM]; unfold sdig; rw [allD_length]; rfl
  have hDg : ∀ i, D.getD i 0 ≤ 255 := fun i => by rw [← hD]; exact Nat.le_trans (digit_le _ k i) hG5
  have HDE := Lib.hid hD
  have HME := Lib.hid hM
  have HLE := Lib.hid hL
  have HYE := Lib.hid hY
  have HDL := Lib.hid hDl
  have HDG := Lib.hid hDg
  have HC0 : Hid ((shp k)[0]? = some (.int .u32 (Y : Int))) := by show _ = _; rw [← hY]; rfl
  rw [hM] at hm
  clear hD hM hL hY hDl hDg hG5
  have H22 : Hid ((Tryz.prog.info? 29).map (·.size) = some (bys I).length) := by show _ = _; rw [bys_length, hI]; exact s22
  have H26 : Hid ((Tryz.prog.info? 95).map (·.size) = some (kcs I q seed (k : Int)).length) := by show _ = _; rw [kcs_length I seed q _ hI hs]; exact s26
  have H67 : Hid ((Tryz.prog.info? 102).map (·.size) = some (bys (pre20 I q)).length) := by show _ = _; rw [bys_length, pre20_length I q hI]; exact s67
  have HL67 : Hid (z20.length = (bys (pre20 I q)).length) := by show _ = _; rw [bys_length, pre20_length I q hI, z20_length]
  obtain ⟨R, hR⟩ : ∃ R, hrnd (pre20 I q) seed = R := ⟨_, rfl⟩
  have HRE := Lib.hid hR
  have hRl : R.length = 32 := by rw [← hR]; exact hrnd_length _ _
  have HRL := Lib.hid hRl
  have H24R : Hid ((Tryz.prog.info? 30).map (·.size) = some (bys R).length) := by show _ = _; rw [bys_length, hRl]; exact s24
  have HLZR : Hid (z32.length = (bys R).length) := by show _ = _; rw [bys_length, hRl, z32_length]
  obtain ⟨d26, hu26, hd26⟩ := row26
  have HU2 := Lib.hid hu26
  have HD2 := Lib.hid hd26
  obtain ⟨d57, hu57, hd57⟩ := row57
  have HU := Lib.hid hu57
  have HD := Lib.hid hd57
  obtain ⟨At, ct, rfl, hct, hmt⟩ := ht.shape
  unfold maxLen at hmt
  clear hI hs hk hi hz0 hz1 hz2 hu26 hd26 hu57 hd57 hR hRl ht
  go_enter Tryz.func49, Tryz.ntmps49
  go_wp2_with (refine wpList_box_blk rfl 95 _ rfl (kcs I q seed (k : Int)) rfl ?_)
  intro v2 a1 a2 a3
  obtain ⟨g0, hg0⟩ : ∃ g, w.heap.size = g := ⟨_, rfl⟩
  rw [hg0] at a1 a2 a3 ⊢
  have G1 : Hid (Blk v2 g0 (kcs I q seed (k : Int)) 95) := a1
  have GB : Hid (Below w.heap.size w v2) := by rw [hg0]; exact a3
  have hs2 : g0 < v2.heap.size := by omega
  have hw0 : w.heap.size ≤ g0 := by omega
  clear a1 a2 a3 hg0
  go_wp2
  refine wp_scope_goto 0 rfl ?_
  have cq := (G1.out.cell 16).trans (kcs_q I seed q (k : Int) HI.out)
  go_wp2_with (refine wpList_load_mid rfl 29 _ rfl g0 0 rfl (bys I) _ (kcs_rangeI G1.out) tu22 rfl H22.out ?_)
  clear cq
  refine (prefixOf_any I q _ HI.out hq).mono ?_
  rintro e w1 ⟨rfl, hb⟩
  have E1 : Hid (Blk w1 g0 (kcs I q seed (k : Int)) 95) := G1.out.below hb (by omega)
  have EB : Hid (Below w.heap.size w w1) := GB.out.trans (hb.mono (by omega))
  have hs1 : g0 < w1.heap.size := Nat.lt_of_lt_of_le hs2 hb.size
  clear hb G1 GB hs2
  go_wp2_with (refine wpList_alloc_blk rfl 102 rfl _ zi67 ?_)
  intro w2 a1 a2 a3
  obtain ⟨gp, hgp⟩ : ∃ g, w1.heap.size = g := ⟨_, rfl⟩
  rw [hgp] at a1 a2 a3 hs1 ⊢
  have A1 := Lib.hid a1
  obtain ⟨t2, ht2⟩ : ∃ t, w2.setRow gp (bys (pre20 I q)).toArray = t := ⟨_, rfl⟩
  have L1 : Hid (Blk t2 g0 (kcs I q seed (k : Int)) 95) := by rw [← ht2]; exact (E1.out.below a3 (by omega)).setRowOther (by omega)
  have L3 : Hid (Blk t2 gp (bys (pre20 I q)) 102) := by rw [← ht2]; exact a1.setRow
  have LB : Hid (Below w.heap.size w t2) := by rw [← ht2]; exact below_setRow' (EB.out.trans (a3.mono (by omega))) (by omega) _
  clear a1 a2 a3 E1 EB hgp
  go_wp2_with (first | (refine wpList_store_blk rfl 102 _ _ rfl gp (bys (pre20 I q)) z20 102 rfl rfl A1.out H67.out HL67.out (bys_one' _) ?_; rw [ht2]) | (refine wpList_load_blkU rfl 95 _ rfl g0 rfl (kcs I q seed (k : Int)) 95 L1.out d26 HU2.out HD2.out H26.out ?_))
  clear ht2 A1
  refine (randomizer_any I seed q (k : Int) _ HI.out HS.out hq).mono ?_
  rintro e w3 ⟨rfl, hb⟩
  rw [HRE.out]
  have M1 : Hid (Blk w3 g0 (kcs I q seed (k : Int)) 95) := L1.out.below hb L1.out.lt
  have M3 : Hid (Blk w3 gp (bys (pre20 I q)) 102) := L3.out.below hb L3.out.lt
  have MB : Hid (Below w.heap.size w w3) := LB.out.trans (hb.mono LB.out.size)
  have hs3 : gp < w3.heap.size := M3.out.lt
  clear hb L1 L3 LB
  go_wp2_with (refine wpList_alloc_blk rfl 30 rfl _ z24 ?_)
  intro w4 a1 a2 a3
  obtain ⟨gR, hgR⟩ : ∃ g, w3.heap.size = g := ⟨_, rfl⟩
  rw [hgR] at a1 a2 a3 hs3 ⊢
  have A1 := Lib.hid a1
  obtain ⟨t4, ht4⟩ : ∃ t, w4.setRow gR (bys R).toArray = t := ⟨_, rfl⟩
  have P1 : Hid (Blk t4 g0 (kcs I q seed (k : Int)) 95) := by rw [← ht4]; exact (M1.out.below a3 (by omega)).setRowOther (by omega)
  have P3 : Hid (Blk t4 gp (bys (pre20 I q)) 102) := by rw [← ht4]; exact (M3.out.below a3 (by omega)).setRowOther (by omega)
  have P4 : Hid (Blk t4 gR (bys R) 30) := by rw [← ht4]; exact a1.setRow
  have PB : Hid (Below w.heap.size w t4) := by rw [← ht4]; exact below_setRow' (MB.out.trans (a3.mono (by omega))) (by omega) _
  have cw := (P1.out.cell 49).trans (kcs_z I seed q (k : Int) HI.out HS.out)
  clear a1 a2 a3 M1 M3 MB hgR
  go_wp2_with (first | (refine wpList_store_blk rfl 30 _ _ rfl gR (bys R) z32 30 rfl rfl A1.out H24R.out HLZR.out (bys_one' _) ?_; rw [ht4]))
  clear cw ht4 A1
  refine (shapeOf_yes k _ HK.out).mono ?_
  rintro e w5 ⟨rfl, hb⟩
  have Q1 : Hid (Blk w5 g0 (kcs I q seed (k : Int)) 95) := P1.out.below hb P1.out.lt
  have Q3 : Hid (Blk w5 gp (bys (pre20 I q)) 102) := P3.out.below hb P3.out.lt
  have Q4 : Hid (Blk w5 gR (bys R) 30) := P4.out.below hb P4.out.lt
  have QB : Hid (Below w.heap.size w w5) := PB.out.trans (hb.mono PB.out.size)
  have hs5 : gR < w5.heap.size := Q4.out.lt
  clear hb P1 P3 P4 PB
  go_wp2_with (refine wpList_alloc_blk rfl 105 rfl _ zi57 ?_)
  intro w6 a1 a2 a3
  obtain ⟨gs, hgs⟩ : ∃ g, w5.heap.size = g := ⟨_, rfl⟩
  rw [hgs] at a1 a2 a3 hs5 ⊢
  have A1 := Lib.hid a1
  obtain ⟨t6, ht6⟩ : ∃ t, w6.setRow gs (shp k).toArray = t := ⟨_, rfl⟩
  have R1 : Hid (Blk t6 g0 (kcs I q seed (k : Int)) 95) := by rw [← ht6]; exact (Q1.out.below a3 (by omega)).setRowOther (by omega)
  have R3 : Hid (Blk t6 gp (bys (pre20 I q)) 102) := by rw [← ht6]; exact (Q3.out.below a3 (by omega)).setRowOther (by omega)
  have R4 : Hid (Blk t6 gR (bys R) 30) := by rw [← ht6]; exact (Q4.out.below a3 (by omega)).setRowOther (by omega)
  have R5 : Hid (Blk t6 gs (shp k) 105) := by rw [← ht6]; exact a1.setRow
  have RB : Hid (Below w.heap.size w t6) := by rw [← ht6]; exact below_setRow' (QB.out.trans (a3.mono (by omega))) (by omega) _
  clear a1 a2 a3 Q1 Q3 Q4 QB hgs
  go_wp2_with (first | (refine wpList_store_blk rfl 105 _ _ rfl gs (shp k) shp0 105 rfl rfl A1.out s57 rfl (shp_one k) ?_; rw [ht6]))
  clear ht6 A1
  refine wp_region_rely2 12 0 (fun x => ⟨#[Value.agg (kcs I q seed ↑k).toArray, Value.slice At text.length ct, Value.pointer (some { block := g0, off := 0 }), undef, Value.slice none 0 0, Value.int IntKind.i64 0, x 10, Value.slice none 0 0, Value.pointer (some { block := gp, off := 0 }), Value.pointer (some { block := gR, off := 0 }), Value.pointer (some { block := gs, off := 0 }), x 11, undef, undef, undef, Value.pointer (some { block := g0, off := 0 }), Value.agg (bys I).toArray, Value.pointer (some { block := g0, off := 16 }), Value.int IntKind.u32 ↑q, Value.agg (bys (pre20 I q)).toArray, Value.agg (kcs I q seed ↑k).toArray, Value.agg (bys R).toArray, Value.tuple #[Value.agg (shp k).toArray, Value.int IntKind.i64 0], Value.pointer (some { block := g0, off := 49 }), Value.int IntKind.i64 ↑k, Value.tuple #[Value.agg (shp k).toArray, Value.int IntKind.i64 0], Value.agg (shp k).toArray, Value.int IntKind.i64 0, Value.int IntKind.i64 0, Value.bool false, x 7, x 0, x 1, x 2, x 3, x 4, x 5, x 6, x 8, x 9, undef, undef, undef, undef, undef, undef, undef, undef, undef, undef, undef, undef, undef, undef, undef, undef, undef, undef, undef, undef, undef, undef, undef, undef, undef, undef, undef, undef, undef, undef, undef, undef], []⟩) (fun jj => ([eqV (.agg (bys (pre20 I q)).toArray), eqV (.agg (bys R).toArray), eqV (.slice At text.length ct), (eqV (.agg (bys (hmsg (pre20 I q) R text)).toArray)), eqV (.pointer (some ⟨g0, 49, none⟩)), eqV (.int .i64 (k : Int)), (AllN D), (AllN D), (RdIN D), eqV (.int .i64 0), (RdIN D), eqV (.int .i64 0)] : List (Value → World → Prop)).getD jj (fun _ _ => True)) rfl ⟨fun kk => [_, _, _, _, _, _, _, _, _, _, _, _].getD kk undef, rfl⟩ (by kernel_rfl) (by kernel_rfl) ?steps ?fin
  case steps =>
    refine StepsAt.val 0 (.agg (bys (pre20 I q)).toArray) rfl (fun _ _ => rfl) rfl rfl (fun x w1 hb hd => ?_) ?_
    · exact run_load_blk 102 (.tmp 8) rfl gp rfl (bys (pre20 I q)) 102 (R3.out.below hb R3.out.lt) 20 5 tu67 H67.out
    refine StepsAt.val 1 (.agg (bys R).toArray) rfl (fun _ _ => rfl) rfl rfl (fun x w1 hb hd => ?_) ?_
    · exact run_load_blk 30 (.tmp 9) rfl gR rfl (bys R) 30 (R4.out.below hb R4.out.lt) 32 5 tu24 H24R.out
    refine StepsAt.val 2 (.slice At text.length ct) rfl (fun _ _ => rfl) rfl rfl (fun x w1 hb hd => ?_) ?_
    · first | (go_simp; done) | (go_simp; rfl)
    refine StepsAt.cons 3 (fun _ _ _ h hb => h) (fun _ _ => rfl) rfl rfl (fun x w1 hb hd K hK => ?_) ?_
    · have h0 : Hid (x 0 = .agg (bys (pre20 I q)).toArray) := hd 0 (by kernel_rfl)
      have h1 : Hid (x 1 = .agg (bys R).toArray) := hd 1 (by kernel_rfl)
      have h2 : Hid (x 2 = .slice At text.length ct) := hd 2 (by kernel_rfl)
      go_simp
      refine calls_args (args2 := #[.agg (bys (pre20 I q)).toArray, .agg (bys R).toArray, .slice At text.length ct]) (by rw [h0.out, h1.out, h2.out]) ?_
      refine (messageHash_any (pre20 I q) R text _ _ HP.out HRL.out (((HT.out.below RB.out).below (hb.mono RB.out.size)).more (Nat.le_trans RB.out.size hb.size)) hl).mono ?_
      rintro e w2 ⟨rfl, hb2⟩
      exact hK.out _ _ hb2 rfl
    refine StepsAt.val 4 (.pointer (some ⟨g0, 49, none⟩)) rfl (fun _ _ => rfl) rfl rfl (fun x w1 hb hd => ?_) ?_
    · first | (go_simp; done) | (go_simp; rfl)
    refine StepsAt.val 5 (.int .i64 (k : Int)) rfl (fun _ _ => rfl) rfl rfl (fun x w1 hb hd => ?_) ?_
    · have h4 : x 4 = .pointer (some ⟨g0, 49, none⟩) := hd 4 (by kernel_rfl)
      have c := ((R1.out.below hb R1.out.lt).cell 49).trans (kcs_z I seed q (k : Int) HI.out HS.out)
      rw [h4]
      first | (go_simp; done) | (go_simp; rfl)
    refine StepsAt.cons 6 (fun _ _ _ h hb => AllN.keep h hb) (fun _ _ => rfl) rfl rfl (fun x w1 hb hd K hK => ?_) ?_
    · have h3 : Hid (x 3 = .agg (bys (hmsg (pre20 I q) R text)).toArray) := hd 3 (by kernel_rfl)
      have h5 : Hid (x 5 = .int .i64 (k : Int)) := hd 5 (by kernel_rfl)
      go_simp
      refine calls_args (args2 := #[.agg (bys (hmsg (pre20 I q) R text)).toArray, .int .i64 (k : Int)]) (by rw [h3.out, h5.out]) ?_
      refine (all_yes (hmsg (pre20 I q) R text) k _ HK.out (hmsg_length _ _ _)).mono ?_
      rintro e w2 ⟨u, rfl, hown, hb2⟩
      have hDD : allD (hmsg (pre20 I q) R text) k = D := by rw [← HRE.out]; exact HDE.out
      rw [hDD] at hown
      exact hK.out _ _ hb2 ⟨u, rfl, hown.rd⟩
    refine StepsAt.cons 7 (fun _ _ _ h hb => AllN.keep h hb) (fun _ _ => rfl) rfl rfl (fun x w1 hb hd K hK => ?_) ?_
    · have h6 : AllN D (x 6) w1 := hd 6 (by kernel_rfl)
      exact hK.out _ _ (Below.refl _ _) h6
    refine StepsAt.cons 8 (fun _ _ _ h hb => RdIN.keep h hb) (fun _ _ => rfl) rfl rfl (fun x w1 hb hd K hK => ?_) ?_
    · have h7 : AllN D (x 7) w1 := hd 7 (by kernel_rfl)
      obtain ⟨u, e7, hu⟩ := h7
      have key := hK.out u w1 (Below.refl _ _) hu
      simp only [Act.put, e7, List.setIfInBounds_toArray, List.set_cons_zero, List.set_cons_succ] at key
      go_simp
      exact key
    refine StepsAt.val 9 (.int .i64 0) rfl (fun _ _ => rfl) rfl rfl (fun x w1 hb hd => ?_) ?_
    · have h7 : AllN D (x 7) w1 := hd 7 (by kernel_rfl)
      obtain ⟨u, e7, hu⟩ := h7
      rw [e7]
      first | (go_simp; done) | (go_simp; rfl)
    refine StepsAt.cons 10 (fun _ _ _ h hb => RdIN.keep h hb) (fun _ _ => rfl) rfl rfl (fun x w1 hb hd K hK => ?_) ?_
    · have h8 : RdIN D (x 8) w1 := hd 8 (by kernel_rfl)
      exact hK.out _ _ (Below.refl _ _) h8
    refine StepsAt.val 11 (.int .i64 0) rfl (fun _ _ => rfl) rfl rfl (fun x w1 hb hd => ?_) ?_
    · have h9 : x 9 = .int .i64 0 := hd 9 (by kernel_rfl)
      rw [h9]
      first | (go_simp; done) | (go_simp; rfl)
    exact StepsAt.done
  case fin =>
    intro x w1 hb hd
    have h9 : x 11 = .int .i64 0 := hd 11 (by omega)
    have h8 : RdIN D (x 10) w1 := hd 10 (by omega)
    refine AnyTill.any (S := fun _ => True) (m := 12) _ _ _ _ ?_
    refine AnyTill.done (by kernel_rfl) ?_
    refine NoPanic.normal ?_
    rw [h9]
    have S1 : Hid (Blk w1 g0 (kcs I q seed (k : Int)) 95) := R1.out.below hb R1.out.lt
    have S3 : Hid (Blk w1 gp (bys (pre20 I q)) 102) := R3.out.below hb R3.out.lt
    have S4 : Hid (Blk w1 gR (bys R) 30) := R4.out.below hb R4.out.lt
    have S5 : Hid (Blk w1 gs (shp k) 105) := R5.out.below hb R5.out.lt
    have SB : Hid (Below w.heap.size w w1) := RB.out.trans (hb.mono RB.out.size)
    obtain ⟨AD, cD, eD, hcD, hmD⟩ := RdI.shape h8
    obtain ⟨aD, hAD, _⟩ := RdI.at_ (by rw [← eD]; exact h8) 0 (by rw [HDL.out]; exact hM0)
    subst hAD
    rw [HDL.out] at eD hcD
    unfold maxLen at hmD
    have S8 : Hid (RdI w1.heap.size w1 (.slice (some aD) M cD) D) := by rw [← eD]; exact h8
    generalize x 0 = y0
    generalize x 1 = y1
    generalize x 2 = y2
    generalize x 3 = y3
    generalize x 4 = y4
    generalize x 5 = y5
    generalize x 6 = y6
    generalize x 7 = y7
    generalize x 8 = y8
    generalize x 9 = y9
    rw [eD]
    clear hd h8 h9 eD hb R1 R3 R4 R5 RB x
    go_wp2
    refine wp_region_rely3 6 2 (fun x => ⟨#[Value.agg (kcs I q seed ↑k).toArray, Value.slice At text.length ct, Value.pointer (some { block := g0, off := 0 }), undef, Value.slice none 0 0, Value.int IntKind.i64 0, Value.slice (some aD) M cD, Value.slice none 0 0, Value.pointer (some { block := gp, off := 0 }), Value.pointer (some { block := gR, off := 0 }), Value.pointer (some { block := gs, off := 0 }), Value.int IntKind.i64 0, undef, undef, undef, Value.pointer (some { block := g0, off := 0 }), Value.agg (bys I).toArray, Value.pointer (some { block := g0, off := 16 }), Value.int IntKind.u32 ↑q, Value.agg (bys (pre20 I q)).toArray, Value.agg (kcs I q seed ↑k).toArray, Value.agg (bys R).toArray, Value.tuple #[Value.agg (shp k).toArray, Value.int IntKind.i64 0], Value.pointer (some { block := g0, off := 49 }), Value.int IntKind.i64 ↑k, Value.tuple #[Value.agg (shp k).toArray, Value.int IntKind.i64 0], Value.agg (shp k).toArray, Value.int IntKind.i64 0, Value.int IntKind.i64 0, Value.bool false, y7, y0, y1, y2, y3, y4, y5, y6, y8, y9, Value.int IntKind.i64 0, Value.bool false, x 0, x 1, x 2, x 3, x 4, x 5, undef, undef, undef, undef, undef, undef, undef, undef, undef, undef, undef, undef, undef, undef, undef, undef, undef, undef, undef, undef, undef, undef, undef, undef], []⟩) (fun jj => ([eqV (.agg (shp k).toArray), (eqV (.int .i64 (L : Int))), (OwnN w1.heap.size []), eqV (.pointer (some ⟨gs, 0, none⟩)), eqV (.int .u32 (Y : Int)), (RdN (be 4 Y))] : List (Value → World → Prop)).getD jj (fun _ _ => True)) rfl ⟨fun kk => [_, _, _, _, _, _].getD kk undef, rfl⟩ (by kernel_rfl) (by kernel_rfl) ?steps ?fin
    case steps =>
      refine StepsAt.val 0 (.agg (shp k).toArray) rfl (fun _ _ => rfl) rfl rfl (fun x w9 hb hd => ?_) ?_
      · exact run_load_blkU 105 (.tmp 10) rfl gs rfl (shp k) 105 (S5.out.below hb S5.out.lt) d57 HU.out HD.out s57
      refine StepsAt.cons 1 (fun _ _ _ h hb => h) (fun _ _ => rfl) rfl rfl (fun x w9 hb hd K hK => ?_) ?_
      · have h0 : Hid (x 0 = .agg (shp k).toArray) := hd 0 (by kernel_rfl)
        go_simp
        refine calls_args (args2 := #[.agg (shp k).toArray]) (by rw [h0.out]) ?_
        refine (long_any k _ HK.out).mono ?_
        rintro e w2 ⟨rfl, hb2⟩
        rw [HLE.out]
        exact hK.out _ _ hb2 rfl
      refine StepsAt.cons 2 (fun _ _ _ h hb => OwnN.keep h hb) (fun _ _ => rfl) rfl rfl (fun x w9 hb hd K hK => ?_) ?_
      · have h1 : Hid (x 1 = .int .i64 (L : Int)) := hd 1 (by kernel_rfl)
        refine wp_of_list rfl (wpList_make_own _ rfl (.const (.int .i64 0)) (.tmp 43) 22 rfl w1.heap.size 5 i0 (.int .u8 0) 1 Tryz.underlying22 HIN.out H0.out H1.out .i64 .i64 (L : Int) L rfl h1.out rfl (by rw [H2.out]; omega) (by unfold maxLen; omega) hb.size ?_)
        intro w2 hown hgrow
        exact hK.out _ _ ((Below.refl _ _).grown hgrow (Nat.le_refl _) (fun k hk => by cases hk)) hown
      refine StepsAt.val 3 (.pointer (some ⟨gs, 0, none⟩)) rfl (fun _ _ => rfl) rfl rfl (fun x w9 hb hd => ?_) ?_
      · first | (go_simp; done) | (go_simp; rfl)
      refine StepsAt.val 4 (.int .u32 (Y : Int)) rfl (fun _ _ => rfl) rfl rfl (fun x w9 hb hd => ?_) ?_
      · have h3 : x 3 = .pointer (some ⟨gs, 0, none⟩) := hd 3 (by kernel_rfl)
        have c := ((S5.out.below hb S5.out.lt).cell 0).trans HC0.out
        rw [h3]
        first | (go_simp; done) | (go_simp; rfl)
      refine StepsAt.cons 5 (fun _ _ _ h hb => RdN.keep h hb) (fun _ _ => rfl) rfl rfl (fun x w9 hb hd K hK => ?_) ?_
      · have h4 : Hid (x 4 = .int .u32 (Y : Int)) := hd 4 (by kernel_rfl)
        go_simp
        refine calls_args (args2 := #[.int .u32 (Y : Int)]) (by rw [h4.out]) ?_
        refine (fourBytes_any Y _ hY4).mono ?_
        rintro e w2 ⟨v2, rfl, hown, hb2⟩
        exact hK.out _ _ hb2 hown.rd
      exact StepsAt.done
    case fin =>
      intro x w9 hb hd
      have h2 : Own 5 w9 w1.heap.size (x 2) [] := hd 2 (by omega)
      have h5 : Rd w9.heap.size w9 (x 5) (be 4 Y) := hd 5 (by omega)
      refine AnyTill.any (S := fun _ => True) (m := 8) _ _ _ _ ?_
      refine AnyTill.one (i := 6) (by kernel_rfl) rfl (by rfl) (fun K hK => ?_)
      refine wp_of_list rfl (wpList_app rfl (.tmp 44) (.tmp 47) 22 rfl 5 i0 Tryz.underlying22 HIN.out H0.out H1.out H2.out w1.heap.size w9.heap.size (x 2) (x 5) [] (be 4 Y) rfl h2 rfl h5 (by rw [be_length]; simp) hb.size ?_)
      intro v10 w10 hown10 hb10
      rw [List.nil_append] at hown10
      refine hK.out _ _ (.inr trivial) ?_
      clear hK K
      refine AnyTill.one (i := 7) (by kernel_rfl) rfl (by rfl) (fun K hK => ?_)
      refine hK.out _ _ (.inr trivial) ?_
      clear hK K
      refine AnyTill.done (by kernel_rfl) ?_
      refine NoPanic.normal ?_
      simp only [Act.put, Act.eval, List.setIfInBounds_toArray, List.set_cons_zero, List.set_cons_succ, Array.getD_eq_getD_getElem?, List.getElem?_toArray, List.getElem?_cons_zero, List.getElem?_cons_succ, Option.getD_some]
      have hbA : Below w1.heap.size w1 w10 := hb.trans hb10
      obtain ⟨b, hbE⟩ : ∃ b, w1.heap.size = b := ⟨_, rfl⟩
      have T1 : Hid (Blk w10 g0 (kcs I q seed (k : Int)) 95) := S1.out.below hbA S1.out.lt
      have T3 : Hid (Blk w10 gp (bys (pre20 I q)) 102) := S3.out.below hbA S3.out.lt
      have T4 : Hid (Blk w10 gR (bys R) 30) := S4.out.below hbA S4.out.lt
      have T8 : Hid (RdI b w10 (.slice (some aD) M cD) D) := by rw [← hbE]; exact S8.out.below hbA
      have TO : Hid (Own 5 w10 b v10 (be 4 Y)) := by rw [← hbE]; exact hown10
      have TB : Hid (Below w.heap.size w w10) := SB.out.trans (hbA.mono SB.out.size)
      have hb10s : b ≤ w10.heap.size := by rw [← hbE]; exact hbA.size
      have hg0b : g0 < b := by rw [← hbE]; exact S1.out.lt
      have hgpb : gp < b := by rw [← hbE]; exact S3.out.lt
      have hwb : w.heap.size ≤ b := by rw [← hbE]; exact SB.out.size
      have hgR10 : gR < w10.heap.size := T4.out.lt
      generalize x 0 = z0
      generalize x 1 = z1
      generalize x 2 = z2
      generalize x 3 = z3
      generalize x 4 = z4
      generalize x 5 = z5
      clear hd h2 h5 hb hb10 hown10 hbA S1 S3 S4 S5 S8 SB hbE x
      go_wp2_with (at_builtin; refine wpList_app rfl _ _ 22 rfl 5 i0 Tryz.underlying22 HIN.out H0.out H1.out H2.out b w10.heap.size _ _ (be 4 Y) R rfl TO.out rfl (Rd.blk 32 HRL.out T4.out hgR10 (by omega)) (by rw [be_length, HRL.out]; omega) hb10s ?_)
      intro v11 w11 hown11 hb11
      have K0 : Hid (SigAt w I seed q k g0 gp b D (.slice (some aD) M cD) v11 (be 4 Y ++ R ++ rowsTo (sgnF (pre20 I q) seed D) 0) w11) :=
        ⟨T1.out.below hb11 hg0b, T3.out.below hb11 hgpb, T8.out.below hb11, by simpa [rowsTo] using hown11, Nat.le_trans hb10s hb11.size, TB.out.trans (hb11.mono hwb)⟩
      clear hown11 hb11 T1 T3 T4 T8 TO TB hgR10 hb10s
      go_wp2
      go_loopw [7, 54] (fun v x wr => ∃ i : Nat, i ≤ M ∧ x = .int .i64 (i : Int) ∧ Hid (SigAt w I seed q k g0 gp b D (.slice (some aD) M cD) v (be 4 Y ++ R ++ rowsTo (sgnF (pre20 I q) seed D) i) wr)) (fun _ x _ => M - (intOf x).toNat)
      case atStart => exact ⟨0, by omega, rfl, K0⟩
      case round =>
        clear K0
        obtain ⟨i, hi, rfl, KK⟩ := hrel
        have hel : (be 4 Y ++ R ++ rowsTo (sgnF (pre20 I q) seed D) i).length = 36 + 32 * i := by
          rw [List.length_append, List.length_append, be_length, HRL.out, rowsTo_length _ (sgnF_length _ _ _)]
        obtain ⟨A4, c4, hv4, hc4, hm4⟩ := KK.out.2.2.2.1.rd.shape
        rw [hel] at hv4 hc4
        subst hv4
        unfold maxLen at hm4
        have HEL := Lib.hid hel
        clear hel
        by_cases hi2 : i < M
        · have zi : (i : Int) < (M : Int) := by omega
          have hi3 : i < 65536 := by omega
          obtain ⟨d, hd⟩ : ∃ d, D.getD i 0 = d := ⟨_, rfl⟩
          obtain ⟨aD', hAD, cd⟩ := KK.out.2.2.1.at_ i (by rw [HDL.out]; exact hi2)
          injection hAD with hAD
          subst hAD
          rw [hd] at cd
          have hd5 : d ≤ 255 := by rw [← hd]; exact HDG.out i
          have HDI := Lib.hid hd
          clear hd
          have hwg0 : g0 < wr.heap.size := KK.out.1.lt
          have hwgp : gp < wr.heap.size := KK.out.2.1.lt
          have H24e : Hid ((Tryz.prog.info? 30).map (·.size) = some (bys (sgnF (pre20 I q) seed D i)).length) := by show _ = _; rw [bys_length, sgnF_length]; exact s24
          have HLZe : Hid (z32.length = (bys (sgnF (pre20 I q) seed D i)).length) := by show _ = _; rw [bys_length, sgnF_length, z32_length]
          go_wp2
          clear cd
          refine wp_region_rely2 8 1 (fun x => ⟨#[Value.agg (kcs I q seed ↑k).toArray, Value.slice At text.length ct, Value.pointer (some { block := g0, off := 0 }), undef, Value.slice none 0 0, Value.int IntKind.i64 0, Value.slice (some aD) M cD, Value.slice A4 (36 + 32 * i) c4, Value.pointer (some { block := gp, off := 0 }), Value.pointer (some { block := gR, off := 0 }), Value.pointer (some { block := gs, off := 0 }), Value.int IntKind.i64 0, Value.int IntKind.i64 ↑i, Value.int IntKind.i64 ↑d, x 7, Value.pointer (some { block := g0, off := 0 }), Value.agg (bys I).toArray, Value.pointer (some { block := g0, off := 16 }), Value.int IntKind.u32 ↑q, Value.agg (bys (pre20 I q)).toArray, Value.agg (kcs I q seed ↑k).toArray, Value.agg (bys R).toArray, Value.tuple #[Value.agg (shp k).toArray, Value.int IntKind.i64 0], Value.pointer (some { block := g0, off := 49 }), Value.int IntKind.i64 ↑k, Value.tuple #[Value.agg (shp k).toArray, Value.int IntKind.i64 0], Value.agg (shp k).toArray, Value.int IntKind.i64 0, Value.int IntKind.i64 0, Value.bool false, y7, y0, y1, y2, y3, y4, y5, y6, y8, y9, Value.int IntKind.i64 0, Value.bool false, z0, z1, z2, z3, z4, z5, v10, v10, Value.slice (some { block := gR, off := 0 }) 32 32, v11, Value.slice (some aD) M cD, Value.int IntKind.i64 ↑M, Value.int IntKind.i64 ↑i, Value.bool true, Value.int IntKind.i64 ↑i, Value.pointer (some (aD.add i)), Value.int IntKind.i64 ↑d, x 0, x 1, x 2, x 3, x 4, x 5, x 6, u66, u67, u68, u69, undef, undef], []⟩) (fun jj => ([eqV (.agg (bys (pre20 I q)).toArray), eqV (.int .i64 (i : Int)), eqV (.int .i64 (d : Int)), eqV (.agg (kcs I q seed (k : Int)).toArray), eqV (.int .i64 (i : Int)), (eqV (.agg (bys (hsec (pre20 I q) seed i)).toArray)), (eqV (.agg (bys (sgnF (pre20 I q) seed D i)).toArray)), (NewB wr.heap.size)] : List (Value → World → Prop)).getD jj (fun _ _ => True)) rfl ⟨fun kk => [_, _, _, _, _, _, _, _].getD kk undef, rfl⟩ (by kernel_rfl) (by kernel_rfl) ?steps ?fin
          case steps =>
            refine StepsAt.val 0 (.agg (bys (pre20 I q)).toArray) rfl (fun _ _ => rfl) rfl rfl (fun x w9 hb hd => ?_) ?_
            · exact run_load_blk 102 (.tmp 8) rfl gp rfl (bys (pre20 I q)) 102 (KK.out.2.1.below hb hwgp) 20 5 tu67 H67.out
            refine StepsAt.val 1 (.int .i64 (i : Int)) rfl (fun _ _ => rfl) rfl rfl (fun x w9 hb hd => ?_) ?_
            · first | (go_simp; done) | (go_simp; rfl)
            refine StepsAt.val 2 (.int .i64 (d : Int)) rfl (fun _ _ => rfl) rfl rfl (fun x w9 hb hd => ?_) ?_
            · first | (go_simp; done) | (go_simp; rfl)
            refine StepsAt.val 3 (.agg (kcs I q seed (k : Int)).toArray) rfl (fun _ _ => rfl) rfl rfl (fun x w9 hb hd => ?_) ?_
            · exact run_load_blkU 95 (.tmp 2) rfl g0 rfl (kcs I q seed (k : Int)) 95 (KK.out.1.below hb hwg0) d26 HU2.out HD2.out H26.out
            refine StepsAt.val 4 (.int .i64 (i : Int)) rfl (fun _ _ => rfl) rfl rfl (fun x w9 hb hd => ?_) ?_
            · first | (go_simp; done) | (go_simp; rfl)
            refine StepsAt.cons 5 (fun _ _ _ h hb => h) (fun _ _ => rfl) rfl rfl (fun x w9 hb hd K hK => ?_) ?_
            · have h3 : Hid (x 3 = .agg (kcs I q seed (k : Int)).toArray) := hd 3 (by kernel_rfl)
              have h4 : Hid (x 4 = .int .i64 (i : Int)) := hd 4 (by kernel_rfl)
              go_simp
              refine calls_args (args2 := #[.agg (kcs I q seed (k : Int)).toArray, .int .i64 (i : Int)]) (by rw [h3.out, h4.out]) ?_
              refine (secret_any I seed q i (k : Int) _ HI.out HS.out hq hi3).mono ?_
              rintro e w2 ⟨rfl, hb2⟩
              exact hK.out _ _ hb2 rfl
            refine StepsAt.cons 6 (fun _ _ _ h hb => h) (fun _ _ => rfl) rfl rfl (fun x w9 hb hd K hK => ?_) ?_
            · have h0 : Hid (x 0 = .agg (bys (pre20 I q)).toArray) := hd 0 (by kernel_rfl)
              have h1 : Hid (x 1 = .int .i64 (i : Int)) := hd 1 (by kernel_rfl)
              have h2 : Hid (x 2 = .int .i64 (d : Int)) := hd 2 (by kernel_rfl)
              have h5 : Hid (x 5 = .agg (bys (hsec (pre20 I q) seed i)).toArray) := hd 5 (by kernel_rfl)
              go_simp
              refine calls_args (args2 := #[.agg (bys (pre20 I q)).toArray, .int .i64 (i : Int), .int .i64 ((0 : Nat) : Int), .int .i64 ((0 + d : Nat) : Int), .agg (bys (hsec (pre20 I q) seed i)).toArray]) (by rw [h0.out, h1.out, h2.out, h5.out, Nat.zero_add]; rfl) ?_
              refine (chain_any (pre20 I q) (hsec (pre20 I q) seed i) i 0 d _ HP.out (hsec_length _ _ _) hi3 (by omega)).mono ?_
              rintro e w2 ⟨rfl, hb2⟩
              refine hK.out _ _ hb2 ?_
              unfold sgnF
              rw [HDI.out]
              rfl
            refine StepsAt.cons 7 (fun _ _ _ h hb => NewB.keep h hb) (fun _ _ => rfl) rfl rfl (fun x w9 hb hd K hK => ?_) ?_
            · refine wp_of_list rfl (wpList_alloc_blk rfl 30 rfl _ z24 ?_)
              intro w2 b1 b2 b3
              exact hK.out _ _ b3 ⟨_, rfl, b1, hb.size⟩
            exact StepsAt.done
          case fin =>
            intro x w9 hb hd
            have hr : x 6 = .agg (bys (sgnF (pre20 I q) seed D i)).toArray := hd 6 (by omega)
            obtain ⟨g, e7, hg7, hgb⟩ : NewB wr.heap.size (x 7) w9 := hd 7 (by omega)
            refine AnyTill.any (S := fun _ => True) (m := 9) _ _ _ _ ?_
            refine AnyTill.one (i := 8) (by kernel_rfl) rfl (by rfl) (fun K hK => ?_)
            refine wp_store_blk 30 (.tmp 14) (.tmp 65) rfl g (bys (sgnF (pre20 I q) seed D i)) z32 30 e7 hr hg7 H24e.out HLZe.out (bys_one' _) ?_
            refine hK.out _ _ (.inr trivial) ?_
            clear hK K
            refine AnyTill.done (by kernel_rfl) ?_
            refine NoPanic.normal ?_
            simp only [Act.put]
            have hbF : Below wr.heap.size wr (w9.setRow g (bys (sgnF (pre20 I q) seed D i)).toArray) := below_setRow' hb hgb _
            have KF : Hid (SigAt w I seed q k g0 gp b D (.slice (some aD) M cD) (.slice A4 (36 + 32 * i) c4) (be 4 Y ++ R ++ rowsTo (sgnF (pre20 I q) seed D) i) (w9.setRow g (bys (sgnF (pre20 I q) seed D i)).toArray)) := KK.out.below hbF
            have LG : Hid (Blk (w9.setRow g (bys (sgnF (pre20 I q) seed D i)).toArray) g (bys (sgnF (pre20 I q) seed D i)) 30) := hg7.setRow
            have hgF : g < (w9.setRow g (bys (sgnF (pre20 I q) seed D i)).toArray).heap.size := LG.out.lt
            generalize w9.setRow g (bys (sgnF (pre20 I q) seed D i)).toArray = wf at KF LG hgF ⊢
            rw [e7]
            clear hd hr hbF KK hb hg7 e7
            go_wp2_with (at_builtin; refine wpList_app rfl _ _ 22 rfl 5 i0 Tryz.underlying22 HIN.out H0.out H1.out H2.out b wf.heap.size _ _ (be 4 Y ++ R ++ rowsTo (sgnF (pre20 I q) seed D) i) (sgnF (pre20 I q) seed D i) rfl KF.out.2.2.2.1 rfl (Rd.blk 32 (sgnF_length _ _ _ _) LG.out hgF (by omega)) (by rw [HEL.out, sgnF_length]; omega) KF.out.2.2.2.2.1 ?_)
            intro v5 w5 hown5 hb5
            have K5 : Hid (SigAt w I seed q k g0 gp b D (.slice (some aD) M cD) v5 (be 4 Y ++ R ++ rowsTo (sgnF (pre20 I q) seed D) (i + 1)) w5) := by
              obtain ⟨f1, f2, f3, f4, f5, f6⟩ := KF.out
              rw [rowsTo_succ]
              exact ⟨f1.below hb5 hg0b, f2.below hb5 hgpb, f3.below hb5, (by simpa only [List.append_assoc] using hown5), Nat.le_trans f5 hb5.size, f6.trans (hb5.mono hwb)⟩
            clear hown5 hb5 KF LG hgF
            go_wp2
            go_roundw
            case rel => exact ⟨i + 1, by omega, by go_num, K5⟩
            case measure => simp [intOf]; omega
        · have hiM : i = M := by omega
          subst hiM
          have zi : ¬ ((i : Int) < (i : Int)) := by omega
          have NO : Hid (Own 5 wr b (.slice A4 (36 + 32 * i) c4) (sigL (pre20 I q) seed text k)) := by
            have h := KK.out.2.2.2.1
            have e1 : be 4 Y ++ R ++ rowsTo (sgnF (pre20 I q) seed D) i = sigL (pre20 I q) seed text k := by unfold sigL; rw [HYE.out, HRE.out, HDE.out, HME.out]
            rw [e1] at h
            exact h
          have NB : Hid (Below w.heap.size w wr) := KK.out.2.2.2.2.2
          clear KK
          go_wp2
          rw [jump_ret]
          go_ret2
          exact ⟨_, rfl, NO.out.base hwb, NB.out⟩
end Go.Proofs.YtllncnnigjgadaaGreat
