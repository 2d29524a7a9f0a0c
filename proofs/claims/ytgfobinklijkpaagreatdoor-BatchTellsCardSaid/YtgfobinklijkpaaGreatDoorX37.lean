/-
  Texts BO BP KO BL.
-/
import Derived.Test.YtgfobinklijkpaaGreatDoorX01
import Derived.Deep.Strs
import Derived.Deep.Grids
import Derived.Test.YtgfobinklijkpaaGreatDoorX03
import Derived.Test.YtgfobinklijkpaaGreatDoorX09
import Derived.Test.YtgfobinklijkpaaGreatDoorX22
import Derived.Test.YtgfobinklijkpaaGreatDoorX29
import Derived.Test.YtgfobinklijkpaaGreatDoorX35
import Derived.Test.YtgfobinklijkpaaGreatDoorX36
namespace Go.Proofs.YtgfobinklijkpaaGreatDoor
set_option maxRecDepth 100000
set_option maxHeartbeats 16000000
open Go.RowKit
theorem btDigest_any (s : List UInt8) (w : World) (hl : s.length ≤ 100000) : Calls Tryz.prog 15 #[txt s] w (Arr (bys (hash s)) w) := by
 have HL := lhd hl
 clear hl
 go_enter Tryz.func15, Tryz.ntmps15
 go_wp2_with (refine wpList_alloc_blk rfl 36 rfl _ z24 ?_)
 intro w1 a1 a2 a3
 obtain ⟨g, hg⟩ : ∃ g, w.heap.size = g := ⟨_, rfl⟩
 have A1 := lhd a1
 have B1 := lhd a3
 have HG := lhd hg
 rw [hg] at A1 ⊢
 have hgl : g ≤ w1.heap.size := by rw [← hg]; exact a3.size
 clear a1 a2 a3 hg
 obtain ⟨A, c, w2, hcv, hrd, hb⟩ := bytes_any (P := Tryz.prog) w1 9 92 5 s Tryz.underlying9 Tryz.underlying92 Tryz.underlying5 (by have := HL.out; unfold maxLen; omega)
 have R2 := lhd hrd
 have B2 : Hid (Below g w w2) := lhd (by rw [← HG.out]; exact B1.out.trans (hb.mono B1.out.size))
 have A2 := lhd (A1.out.below hb A1.out.lt)
 have hgl2 : g ≤ w2.heap.size := Nat.le_trans hgl hb.size
 clear hrd hb A1 B1
 go_wp2_with fail
 refine (sum_any (.slice A s.length c) s w2 R2.out).mono ?_
 rintro e w3 ⟨rfl, hb⟩
 have h32 : (bys (hash s)).length = 32 := by rw [bys_length, hash_length]
 have hall : (bys (hash s)).toArray.all (·.oneCell') = true := by
  rw [Array.all_eq_true_iff_forall_mem]
  intro u hu
  exact bys_one _ u (by simpa using hu)
 have A3 := lhd (A2.out.below hb A2.out.lt)
 have B3 := lhd (B2.out.trans (hb.mono hgl2))
 obtain ⟨L, hL⟩ : ∃ L, bys (hash s) = L := ⟨_, rfl⟩
 rw [hL] at h32 hall ⊢
 have HLL := lhd hL
 have H32 := lhd h32
 clear hb A2 B2 hcv R2 h32 hL
 go_wp2_with (refine wpList_store_to rfl 36 _ _ rfl g L z32 36 rfl rfl A3.out (by rw [H32.out]; kernel_rfl) (by rw [H32.out]; rfl) hall ?_)
 intro w4 e1 e2 e3 e4
 have A4 := lhd e1
 have B4 := lhd (B3.out.trans e3)
 clear e1 e2 e3 e4 A3 B3
 go_wp2
 refine bodyPost_ret (v := .agg L.toArray) ?_ rfl ?_
 ·exact ret_blk rfl _ _ g 36 _ rfl A4.out 32 5 Tryz.underlying36 (by rw [H32.out]; kernel_rfl)
 ·exact ⟨by rw [HLL.out], by rw [HG.out]; exact B4.out⟩
theorem rf14Digest_any (s : List UInt8) (w : World) (hl : s.length ≤ 100000) : Calls Tryz.prog 16 #[txt s] w (Arr (bys (hash s)) w) := by
 have HL := lhd hl
 clear hl
 go_enter Tryz.func16, Tryz.ntmps16
 go_wp2_with (refine wpList_alloc_blk rfl 36 rfl _ z24 ?_)
 intro w1 a1 a2 a3
 obtain ⟨g, hg⟩ : ∃ g, w.heap.size = g := ⟨_, rfl⟩
 have A1 := lhd a1
 have B1 := lhd a3
 have HG := lhd hg
 rw [hg] at A1 ⊢
 have hgl : g ≤ w1.heap.size := by rw [← hg]; exact a3.size
 clear a1 a2 a3 hg
 obtain ⟨A, c, w2, hcv, hrd, hb⟩ := bytes_any (P := Tryz.prog) w1 9 92 5 s Tryz.underlying9 Tryz.underlying92 Tryz.underlying5 (by have := HL.out; unfold maxLen; omega)
 have R2 := lhd hrd
 have B2 : Hid (Below g w w2) := lhd (by rw [← HG.out]; exact B1.out.trans (hb.mono B1.out.size))
 have A2 := lhd (A1.out.below hb A1.out.lt)
 have hgl2 : g ≤ w2.heap.size := Nat.le_trans hgl hb.size
 clear hrd hb A1 B1
 go_wp2_with fail
 refine (refSum_any (.slice A s.length c) s w2 R2.out HL.out).mono ?_
 rintro e w3 ⟨rfl, hb⟩
 have h32 : (bys (hash s)).length = 32 := by rw [bys_length, hash_length]
 have hall : (bys (hash s)).toArray.all (·.oneCell') = true := by
  rw [Array.all_eq_true_iff_forall_mem]
  intro u hu
  exact bys_one _ u (by simpa using hu)
 have A3 := lhd (A2.out.below hb A2.out.lt)
 have B3 := lhd (B2.out.trans (hb.mono hgl2))
 obtain ⟨L, hL⟩ : ∃ L, bys (hash s) = L := ⟨_, rfl⟩
 rw [hL] at h32 hall ⊢
 have HLL := lhd hL
 have H32 := lhd h32
 clear hb A2 B2 hcv R2 h32 hL
 go_wp2_with (refine wpList_store_to rfl 36 _ _ rfl g L z32 36 rfl rfl A3.out (by rw [H32.out]; kernel_rfl) (by rw [H32.out]; rfl) hall ?_)
 intro w4 e1 e2 e3 e4
 have A4 := lhd e1
 have B4 := lhd (B3.out.trans e3)
 clear e1 e2 e3 e4 A3 B3
 go_wp2
 refine bodyPost_ret (v := .agg L.toArray) ?_ rfl ?_
 ·exact ret_blk rfl _ _ g 36 _ rfl A4.out 32 5 Tryz.underlying36 (by rw [H32.out]; kernel_rfl)
 ·exact ⟨by rw [HLL.out], by rw [HG.out]; exact B4.out⟩
theorem tells14_all (l : List Or) (v : Value) (s : List UInt8) (w : World) (hr : RdE OrK w.heap.size w v l) (hf : ∀ o ∈ l, fitsO o) : Calls Tryz.prog 3 #[v, txt s] w (One (.bool true) w) := by
 obtain ⟨A, cp, rfl, hc, hm⟩ := hr.shape
 unfold maxLen at hm
 obtain ⟨n, hn⟩ : ∃ n, l.length = n := ⟨_, rfl⟩
 have HN := lhd hn
 have HR := lhd hr
 have HF := lhd hf
 rw [hn] at hc HR
 rw [hn]
 obtain ⟨k, hk⟩ : ∃ k, s.length = k := ⟨_, rfl⟩
 have hkz : (⟨s.toArray⟩ : ByteArray).size = k := hk
 have HKS := lhd hk
 clear hr hf hn hk
 go_enter Tryz.func3, Tryz.ntmps3
 go_wp2_with fail
 refine (short14 l (.slice A n cp) w HR.out).mono ?_
 rintro e w1 ⟨bs, rfl, hS, hb⟩
 have B1 := lhd hb
 have HS := lhd hS
 clear hb hS
 cases bs with
 | false =>
   go_wp2_with fail
   refine (alive14 w1).mono ?_
   rintro e wz ⟨rfl, hb⟩
   have BZ := lhd (B1.out.trans (hb.mono B1.out.size))
   clear hb
   go_wp2
   go_ret
   exact ⟨rfl, BZ.out⟩
 | true =>
 have hn30 : n ≤ 30 := by rw [← HN.out]; exact HS.out rfl
 clear HS
 by_cases hk6 : (6000 : Int) < (k : Int)
 ·go_wp2_with fail
  refine (alive14 w1).mono ?_
  rintro e wz ⟨rfl, hb⟩
  have BZ := lhd (B1.out.trans (hb.mono B1.out.size))
  clear hb
  go_wp2
  go_ret
  exact ⟨rfl, BZ.out⟩
 have HK : Hid (s.length ≤ 6000) := lhd (by rw [HKS.out]; omega)
 go_wp2_with fail
 refine (btEncode_any l (.slice A n cp) w1 ((HR.out.below B1.out).more B1.out.size) HF.out).mono ?_
 rintro e w2 ⟨rfl, hb⟩
 have B2 := lhd (B1.out.trans (hb.mono B1.out.size))
 clear hb B1
 obtain ⟨X, hX⟩ : ∃ X, encV l = X := ⟨_, rfl⟩
 obtain ⟨E, hE⟩ : ∃ E, encE l = E := ⟨_, rfl⟩
 have HX := lhd hX
 have HE := lhd hE
 rw [hX, hE]
 clear hX hE
 go_wp2_with fail
 refine (all14_any l (.slice A n cp) w2 ((HR.out.below B2.out).more B2.out.size) (by rw [HN.out]; omega)).mono ?_
 rintro e w3 ⟨vl, rfl, ho, hb⟩
 have O3 := lhd ho.rd
 have B3 := lhd (B2.out.trans (hb.mono B2.out.size))
 clear ho hb B2
 go_wp2_with fail
 refine (rf14Encode_any l vl w3 O3.out HF.out).mono ?_
 rintro e w4 ⟨rfl, hb⟩
 rw [HX.out, HE.out]
 have B4 := lhd (B3.out.trans (hb.mono B3.out.size))
 clear hb B3 O3
 go_wp2_with fail
 refine (btDecode_any s w4 (by have := HK.out; omega)).mono ?_
 rintro e w5 ⟨va, rfl, hra, hb⟩
 have RA5 := lhd hra
 have B5 := lhd (B4.out.trans (hb.mono B4.out.size))
 obtain ⟨G, hG⟩ : ∃ G : Int, (if (decB s).isSome = true then (0 : Int) else 3) = G := ⟨_, rfl⟩
 have HG := lhd hG
 rw [hG]
 have hfew : ((decB s).getD []).length ≤ 1000 := by
  cases hd : decB s with
  | none => exact Nat.zero_le _
  | some m =>
    have h := decB_only s m hd
    show m.length ≤ 1000
    omega
 have HFW := lhd hfew
 clear hra hb hG hfew B4
 go_wp2_with fail
 refine (rf14Decode_any s w5 (by have := HK.out; omega)).mono ?_
 rintro e w6 ⟨vb, rfl, hrb, hb⟩
 rw [HG.out]
 have RA6 := lhd ((RA5.out.below hb).more hb.size)
 have RB6 := lhd hrb
 have B6 := lhd (B5.out.trans (hb.mono B5.out.size))
 obtain ⟨D, hD⟩ : ∃ D, (decB s).getD [] = D := ⟨_, rfl⟩
 rw [hD] at RA6 RB6 HFW
 clear hrb hb hD RA5 B5 HG
 go_wp2_with fail
 refine (alive14 w6).mono ?_
 rintro e w7 ⟨rfl, hb⟩
 have RA7 := lhd ((RA6.out.below hb).more hb.size)
 have RB7 := lhd ((RB6.out.below hb).more hb.size)
 have B7 := lhd (B6.out.trans (hb.mono B6.out.size))
 clear hb RA6 RB6 B6
 go_wp2_with fail
 refine (all14_any D va w7 RA7.out HFW.out).mono ?_
 rintro e w8 ⟨vx, rfl, ho, hb⟩
 have O8 := lhd ho.rd
 have RB8 := lhd ((RB7.out.below hb).more hb.size)
 have B8 := lhd (B7.out.trans (hb.mono B7.out.size))
 clear ho hb RA7 RB7 B7
 go_wp2_with fail
 refine (same14_any D D vx vb w8 O8.out RB8.out).mono ?_
 rintro e w9 ⟨rfl, hb⟩
 rw [decide_eq_true (rfl : D = D)]
 have B9 := lhd (B8.out.trans (hb.mono B8.out.size))
 clear hb O8 RB8 B8
 go_wp2_with fail
 refine (btDigest_any s w9 (by have := HK.out; omega)).mono ?_
 rintro e wa ⟨rfl, hb⟩
 have Ba := lhd (B9.out.trans (hb.mono B9.out.size))
 clear hb B9
 go_wp2_with fail
 refine (rf14Digest_any s wa (by have := HK.out; omega)).mono ?_
 rintro e wb ⟨rfl, hb⟩
 have Bb := lhd (Ba.out.trans (hb.mono Ba.out.size))
 have heq := eq24 (hash s) (hash_length s) wb
 obtain ⟨L, hL⟩ : ∃ L, (bys (hash s)).toArray = L := ⟨_, rfl⟩
 rw [hL] at heq ⊢
 clear hb hL Ba
 go_wp2
 go_ret
 exact ⟨rfl, Bb.out⟩
open Go.RowKit Go.ChangeShapes Go.WideShapes
theorem nTxK : Tryz.prog.cellsOf 9 = 1 := by kernel_rfl
theorem nInK : Tryz.prog.cellsOf 3 = 1 := by kernel_rfl
theorem nOrK : Tryz.prog.cellsOf 86 = 8 := by kernel_rfl
theorem txt_ofK (s : ByteArray) : Value.string s = txt s.data.toList := by
 cases s
 simp [txt]
theorem split8K (cs : List Value) (h : cs.length = 8) : cs = (cs.drop 0).take 1 ++ ((cs.drop 1).take 1 ++ ((cs.drop 2).take 1 ++ ((cs.drop 3).take 1 ++ ((cs.drop 4).take 1 ++ ((cs.drop 5).take 1 ++ ((cs.drop 6).take 1 ++ ((cs.drop 7).take 1))))))) := by
 match cs, h with
 | [_, _, _, _, _, _, _, _], _ => rfl
section
variable {H : Type} {enc : TypeId × Value → H} {P : Program} {w : World} {base : Nat} {spare : TypeId → Bool} {held : Bool}
theorem trod_struct8K {t : TypeId} {f0 f1 f2 f3 f4 f5 f6 f7 : Field} {fuel : Nat} {cs : List Value} {x : DataW H × List MemPlace} (ht : P.underlying t = some (.struct #[f0, f1, f2, f3, f4, f5, f6, f7])) (h : DataW.trod enc P w base spare held fuel t cs = some x) :
 ∃ y0 y1 y2 y3 y4 y5 y6 y7 n, cs.length = P.cellsOf t ∧ DataW.trod enc P w base spare held n f0.type ((cs.drop f0.offset).take (P.cellsOf f0.type)) = some y0 ∧ DataW.trod enc P w base spare held n f1.type ((cs.drop f1.offset).take (P.cellsOf f1.type)) = some y1 ∧ DataW.trod enc P w base spare held n f2.type ((cs.drop f2.offset).take (P.cellsOf f2.type)) = some y2 ∧ DataW.trod enc P w base spare held n f3.type ((cs.drop f3.offset).take (P.cellsOf f3.type)) = some y3 ∧ DataW.trod enc P w base spare held n f4.type ((cs.drop f4.offset).take (P.cellsOf f4.type)) = some y4 ∧ DataW.trod enc P w base spare held n f5.type ((cs.drop f5.offset).take (P.cellsOf f5.type)) = some y5 ∧ DataW.trod enc P w base spare held n f6.type ((cs.drop f6.offset).take (P.cellsOf f6.type)) = some y6 ∧ DataW.trod enc P w base spare held n f7.type ((cs.drop f7.offset).take (P.cellsOf f7.type)) = some y7 := by
 obtain ⟨xs, n, _, rfl, hl, hlen, hf⟩ := DataW.trod_struct ht h
 match xs, hlen with
 | [y0, y1, y2, y3, y4, y5, y6, y7], _ => exact ⟨y0, y1, y2, y3, y4, y5, y6, y7, n, hl, by simpa using hf 0 f0 rfl, by simpa using hf 1 f1 rfl, by simpa using hf 2 f2 rfl, by simpa using hf 3 f3 rfl, by simpa using hf 4 f4 rfl, by simpa using hf 5 f5 rfl, by simpa using hf 6 f6 rfl, by simpa using hf 7 f7 rfl⟩
end
section
variable {H : Type} {enc : TypeId × Value → H} {W : World} {spare : TypeId → Bool} {held : Bool}
end
section
variable {H : Type} {enc : TypeId × Value → H} {W : World} {spare : TypeId → Bool} {held : Bool}
theorem trod_orderB (fuel : Nat) (cs : List Value) (x : DataW H × List MemPlace) (h : DataW.trod enc Tryz.prog W 0 spare held fuel 86 cs = some x) : ∃ o : Or, cs = OrK.enc o ∧ fitsO o := by
 obtain ⟨y0, y1, y2, y3, y4, y5, y6, y7, n, hl, t0, t1, t2, t3, t4, t5, t6, t7⟩ := trod_struct8K Tryz.underlying86 h
 simp only [nTxK, nInK] at t0 t1 t2 t3 t4 t5 t6 t7
 obtain ⟨a0, h0, _, w0⟩ := DataW.trod_int Tryz.underlying3 t0
 obtain ⟨a1, h1, _, w1⟩ := DataW.trod_int Tryz.underlying3 t1
 obtain ⟨a2, h2, _, w2⟩ := DataW.trod_int Tryz.underlying3 t2
 obtain ⟨a3, h3, _, _⟩ := DataW.trod_string Tryz.underlying9 t3
 obtain ⟨a4, h4, _, _⟩ := DataW.trod_string Tryz.underlying9 t4
 obtain ⟨a5, h5, _, w5⟩ := DataW.trod_int Tryz.underlying3 t5
 obtain ⟨a6, h6, _, w6⟩ := DataW.trod_int Tryz.underlying3 t6
 obtain ⟨a7, h7, _, w7⟩ := DataW.trod_int Tryz.underlying3 t7
 refine ⟨(a0, a1, a2, a3.data.toList, a4.data.toList, a5, a6, a7), ?_, fit_wf w5, fit_wf w6, fit_wf w7⟩
 rw [split8K cs (by rw [hl, nOrK]), h0, h1, h2, h3, h4, h5, h6, h7, txt_ofK a3, txt_ofK a4]
 rfl
theorem open_ordersB {r : Reach} {base : Nat} {v : Value} {d : DataW H} {p : List MemPlace}
 (hv : Value.okWide Tryz.prog W r base 22 v) (h : DataW.Trod enc Tryz.prog W 0 spare held 22 v d p) : ∃ l, RdE OrK W.heap.size W v l ∧ ∀ o ∈ l, fitsO o := by
 obtain ⟨a, n, c, rfl⟩ := okWide_slice Tryz.underlying22 hv
 obtain ⟨fuel, hf⟩ := h
 obtain ⟨v', l, hc, hr, hF, _⟩ := open_rowsE (E := OrK) (F := fitsO) Tryz.underlying22 nOrK trod_orderB hf
 obtain rfl : Value.slice a n c = v' := by simpa [Value.cells] using hc
 exact ⟨l, hr, hF⟩
end
end Go.Proofs.YtgfobinklijkpaaGreatDoor
