/-
  The document's own layer 4: Four, head, many, last, Long, Type and a key as the document's, for every input.
  The document's own layer 4: a key as the document's, Long, Type and Secret, for every input.
  The document's own layer 4: Chain, for every key, every three ints and every hash.
  The document's own layer 4: the message hash and Sign, for every key and every text of at most 90000 bytes.
  The document's own layer 4: rows of hashes, the public hash of them, and Public. The document's own layer 4: Public, for every key. The law OtsPublic, walked: it answers true for every key.
-/
import Derived.Test.YtllncnnigjgadaaGreatRA
import Derived.Test.YtllncnnigjgadaaGreatDR
import Derived.Test.YtllncnnigjgadaaGreatCC
import Derived.Test.YtllncnnigjgadaaGreatRel3
import Derived.Test.YtllncnnigjgadaaGreatRB
import Derived.Test.YtllncnnigjgadaaGreatDDx
import Derived.Test.YtllncnnigjgadaaGreatOBx
import Derived.Test.YtllncnnigjgadaaGreatSXx
namespace Go.Proofs.YtllncnnigjgadaaGreat
open Go.RowKit

end Go.Proofs.YtllncnnigjgadaaGreat

namespace Go.Proofs.YtllncnnigjgadaaGreat
open Go.RowKit

end Go.Proofs.YtllncnnigjgadaaGreat

namespace Go.Proofs.YtllncnnigjgadaaGreat
open Go.RowKit

end Go.Proofs.YtllncnnigjgadaaGreat

namespace Go.Proofs.YtllncnnigjgadaaGreat
open Go.RowKit

set_option maxRecDepth 100000 in
set_option maxHeartbeats 2000000 in
theorem refSign_yes (I seed text : List UInt8) (q k : Nat) (tv : Value) (w : World) (hI : I.length = 16) (hs : seed.length = 32) (hq : q < 4294967296) (hk : Wd k) (ht : Rd w.heap.size w tv text) (hl : text.length ≤ 90000) :
    Calls Tryz.prog 78 #[.agg (kcs I q seed (k : Int)).toArray, tv] w (fun e w' => ∃ v, e = .returned (.tuple #[v, .int .i64 0]) ∧ Own 5 w' w.heap.size v (sigL (pre20 I q) seed text k) ∧ Below w.heap.size w w') := by
  obtain ⟨i0, hi0, hz0, hz1, hz2⟩ := info_parts info5
  have HIN := Lib.hid hi0
  have H0 := Lib.hid hz0
  have H1 := Lib.hid hz1
  have H2 := Lib.hid hz2
  have HI := Lib.hid hI
  have HS := Lib.hid hs
  have HK := Lib.hid hk
  have HT := Lib.hid ht
  have HTL := Lib.hid hl
  have HP := Lib.hid (pre20_length I q hI)
  have hm := mny_le k hk
  obtain ⟨_, _, _, hG5⟩ := hk.le
  obtain ⟨D, hD⟩ : ∃ D, sdig (pre20 I q) seed text k = D := ⟨_, rfl⟩
  obtain ⟨M, hM⟩ : ∃ M, mny k = M := ⟨_, rfl⟩
  obtain ⟨Y, hY⟩ : ∃ Y, typ k = Y := ⟨_, rfl⟩
  obtain ⟨R, hR⟩ : ∃ R, hrnd (pre20 I q) seed = R := ⟨_, rfl⟩
  have hRl : R.length = 32 := by rw [← hR]; exact hrnd_length _ _
  have hY4 : Y < 4294967296 := by rw [← hY]; rcases hk with rfl | rfl | rfl | rfl <;> decide
  have hM0 : 0 < M := by rw [← hM]; rcases hk with rfl | rfl | rfl | rfl <;> decide
  have hDl : D.length = M := by rw [← hD, ← hM]; unfold sdig; rw [allD_length]; rfl
  have hDg : ∀ i, D.getD i 0 ≤ gr k := fun i => by rw [← hD]; exact digit_le _ k i
  have HDE := Lib.hid hD
  have HME := Lib.hid hM
  have HYE := Lib.hid hY
  have HRE := Lib.hid hR
  have HRL := Lib.hid hRl
  have HDL := Lib.hid hDl
  have HDG := Lib.hid hDg
  rw [hM] at hm
  have H32 : Hid ((Tryz.prog.info? 119).map (·.size) = some (kcs I q seed (k : Int)).length) := by show _ = _; rw [kcs_length I seed q _ hI hs]; exact s32
  have H24R : Hid ((Tryz.prog.info? 30).map (·.size) = some (bys R).length) := by show _ = _; rw [bys_length, hRl]; exact s24
  have HLZR : Hid (z32.length = (bys R).length) := by show _ = _; rw [bys_length, hRl, z32_length]
  have HH : Hid (hash (pre20 I q ++ [255, 253, 255] ++ seed) = R) := by show _ = _; rw [← hR]; unfold hrnd; simp
  obtain ⟨d32, hu32, hd32⟩ := row32
  have HU := Lib.hid hu32
  have HD := Lib.hid hd32
  obtain ⟨At, ct, rfl, hct, hmt⟩ := ht.shape
  unfold maxLen at hmt
  clear hI hs hk hi0 hz0 hz1 hz2 hu32 hd32 hD hM hY hR hRl hDl hDg hG5 ht
  go_enter Tryz.func78, Tryz.ntmps78
  go_wp2_with (refine wpList_box_blk rfl 119 _ rfl (kcs I q seed (k : Int)) rfl ?_)
  intro v1 a1 a2 a3
  obtain ⟨g0, hg0⟩ : ∃ g, w.heap.size = g := ⟨_, rfl⟩
  rw [hg0] at a1 a2 a3 ⊢
  have X1 : Hid (Blk v1 g0 (kcs I q seed (k : Int)) 119) := a1
  have XB : Hid (Below w.heap.size w v1) := by rw [hg0]; exact a3
  have hw0 : w.heap.size ≤ g0 := by omega
  have cw := (a1.cell 49).trans (kcs_z I seed q (k : Int) HI.out HS.out)
  clear a1 a2 a3 hg0
  go_wp2_with fail
  clear cw
  refine (refType_yes k _ HK.out).mono ?_
  rintro e w1 ⟨rfl, rfl⟩
  rw [HYE.out]
  go_wp2_with (refine wpList_load_blkU rfl 119 _ rfl g0 rfl (kcs I q seed (k : Int)) 119 X1.out d32 HU.out HD.out H32.out ?_)
  refine (head_any I seed q (k : Int) _ HI.out hq).mono ?_
  rintro e w2 ⟨hv, rfl, hown, hb⟩
  obtain ⟨b, hbE⟩ : ∃ b, v1.heap.size = b := ⟨_, rfl⟩
  have g0b : g0 < b := by rw [← hbE]; exact X1.out.lt
  have Y1 : Hid (Blk w2 g0 (kcs I q seed (k : Int)) 119) := X1.out.below hb X1.out.lt
  have YB : Hid (Below w.heap.size w w2) := XB.out.trans (hb.mono XB.out.size)
  have YO : Hid (Own 5 w2 b hv (pre20 I q)) := by rw [← hbE]; exact hown
  have hb2 : b ≤ w2.heap.size := by rw [← hbE]; exact hb.size
  have hwb : w.heap.size ≤ b := by omega
  clear hb hown X1 XB hbE
  go_wp2_with (at_builtin; refine wpList_app rfl _ _ 22 rfl 5 i0 Tryz.underlying22 HIN.out H0.out H1.out H2.out b (w2.heap.size + 1) _ _ (pre20 I q) [255, 253, 255] rfl (YO.out.alloc _) rfl ((Own.lit 5 w2 _ 3 [255, 253, 255] rfl (by omega) (by simp [bys])).rd.more (by simp)) (by rw [HP.out]; simp) (by simp; omega) ?_)
  intro v3 w3 hown3 hb3'
  have hb3 : Below b w2 w3 := ((Below.refl b w2).alloc hb2 _).trans hb3'
  have Z1 : Hid (Blk w3 g0 (kcs I q seed (k : Int)) 119) := Y1.out.below hb3 g0b
  have ZB : Hid (Below w.heap.size w w3) := YB.out.trans (hb3.mono hwb)
  have hb3s : b ≤ w3.heap.size := Nat.le_trans hb2 hb3.size
  have ZO : Hid (Own 5 w3 b v3 (pre20 I q ++ [255, 253, 255])) := Lib.hid (by simpa using hown3)
  have ZR : Hid (Rd w3.heap.size w3 (.slice (some ⟨g0, 17, none⟩) 32 32) seed) := kcs_seed Z1.out HI.out HS.out Z1.out.lt
  clear hown3 hb3 hb3' Y1 YB YO
  go_wp2_with (at_builtin; refine wpList_app rfl _ _ 22 rfl 5 i0 Tryz.underlying22 HIN.out H0.out H1.out H2.out b w3.heap.size _ _ (pre20 I q ++ [255, 253, 255]) seed rfl ZO.out rfl ZR.out (by rw [List.length_append, HP.out, HS.out]; simp) hb3s ?_)
  intro v4 w4 hown4 hb4
  have U1 : Hid (Blk w4 g0 (kcs I q seed (k : Int)) 119) := Z1.out.below hb4 g0b
  have UB : Hid (Below w.heap.size w w4) := ZB.out.trans (hb4.mono hwb)
  have UO : Hid (Own 5 w4 b v4 (pre20 I q ++ [255, 253, 255] ++ seed)) := Lib.hid (by simpa using hown4)
  clear hown4 hb4 Z1 ZB ZO ZR
  go_wp2_with fail
  refine (refSum_any v4 _ _ UO.out.rd (by rw [List.length_append, List.length_append, HP.out, HS.out]; simp)).mono ?_
  rintro e w5 ⟨rfl, hb5⟩
  rw [HH.out]
  have V1 : Hid (Blk w5 g0 (kcs I q seed (k : Int)) 119) := U1.out.below hb5 U1.out.lt
  have VB : Hid (Below w.heap.size w w5) := UB.out.trans (hb5.mono UB.out.size)
  clear hb5 U1 UB UO hb2 hb3s hwb g0b
  go_wp2_with (refine wpList_alloc_blk rfl 30 rfl _ z24 ?_)
  intro w6 a1 a2 a3
  obtain ⟨gR, hgR⟩ : ∃ g, w5.heap.size = g := ⟨_, rfl⟩
  rw [hgR] at a1 a2 a3 ⊢
  have A1 := Lib.hid a1
  obtain ⟨t6, ht6⟩ : ∃ t, w6.setRow gR (bys R).toArray = t := ⟨_, rfl⟩
  have hb6 : Below gR w5 t6 := by rw [← ht6]; exact below_setRow' a3 (Nat.le_refl _) _
  have R1 : Hid (Blk t6 g0 (kcs I q seed (k : Int)) 119) := by have := V1.out.lt; exact V1.out.below hb6 (by omega)
  have R4 : Hid (Blk t6 gR (bys R) 30) := by rw [← ht6]; exact a1.setRow
  have RB : Hid (Below w.heap.size w t6) := by have := VB.out.size; exact VB.out.trans (hb6.mono (by omega))
  clear a1 a2 a3 hgR V1 VB hb6
  go_wp2_with (first | (refine wpList_store_blk rfl 30 _ _ rfl gR (bys R) z32 30 rfl rfl A1.out H24R.out HLZR.out (bys_one' _) ?_; rw [ht6]))
  clear A1 ht6
  refine wp_region_rely3 3 2 (fun x => ⟨#[Value.agg (kcs I q seed ↑k).toArray, Value.slice At text.length ct, Value.pointer (some { block := g0, off := 0 }), undef, Value.slice none 0 0, Value.int IntKind.i64 0, Value.int IntKind.u32 ↑Y, Value.int IntKind.i64 0, v4, Value.pointer (some { block := gR, off := 0 }), undef, undef, undef, undef, undef, undef, undef, undef, Value.tuple #[Value.int IntKind.u32 ↑Y, Value.int IntKind.i64 0], Value.pointer (some { block := g0, off := 49 }), Value.int IntKind.i64 ↑k, Value.tuple #[Value.int IntKind.u32 ↑Y, Value.int IntKind.i64 0], Value.int IntKind.u32 ↑Y, Value.int IntKind.i64 0, Value.int IntKind.i64 0, Value.bool false, undef, Value.agg (kcs I q seed ↑k).toArray, hv, Value.slice (some { block := w2.heap.size, off := 0 }) 3 3, v3, v3, Value.pointer (some { block := g0, off := 17 }), Value.slice (some { block := g0, off := 17 }) 32 32, v4, v4, Value.agg (bys R).toArray, x 0, x 1, x 2, undef, undef, undef, undef, undef, undef, undef, undef, undef, undef, undef, undef, undef, undef, undef, undef, undef, undef, undef, undef, undef, undef, undef, undef, undef, undef, undef, undef, undef, undef, undef, undef, undef, undef, undef, undef, undef, undef], []⟩) (fun jj => ([eqV (.int .u32 (Y : Int)), (OwnN t6.heap.size (be 4 Y)), eqV (.slice (some ⟨gR, 0, none⟩) 32 32)] : List (Value → World → Prop)).getD jj (fun _ _ => True)) rfl ⟨fun kk => [_, _, _].getD kk undef, rfl⟩ (by kernel_rfl) (by kernel_rfl) ?steps ?fin
  case steps =>
    refine StepsAt.val 0 (.int .u32 (Y : Int)) rfl (fun _ _ => rfl) rfl rfl (fun x w1 hb hd => ?_) ?_
    · first | (go_simp; done) | (go_simp; rfl)
    refine StepsAt.cons 1 (fun _ _ _ h hb => OwnN.keep h hb) (fun _ _ => rfl) rfl rfl (fun x w1 hb hd K hK => ?_) ?_
    · have h0 : Hid (x 0 = .int .u32 (Y : Int)) := hd 0 (by kernel_rfl)
      go_simp
      refine calls_args (args2 := #[.int .u32 (Y : Int)]) (by rw [h0.out]) ?_
      refine (four_any Y _ hY4).mono ?_
      rintro e w2 ⟨v2, rfl, hown, hb2⟩
      exact hK.out _ _ hb2 (hown.base hb.size)
    refine StepsAt.val 2 (.slice (some ⟨gR, 0, none⟩) 32 32) rfl (fun _ _ => rfl) rfl rfl (fun x w1 hb hd => ?_) ?_
    · first | (go_simp; done) | (go_simp; rfl)
    exact StepsAt.done
  case fin =>
    intro x w1 hb hd
    have h1 : Own 5 w1 t6.heap.size (x 1) (be 4 Y) := hd 1 (by omega)
    have h2 : x 2 = .slice (some ⟨gR, 0, none⟩) 32 32 := hd 2 (by omega)
    refine AnyTill.any (S := fun _ => True) (m := 5) _ _ _ _ ?_
    refine AnyTill.one (i := 3) (by kernel_rfl) rfl (by rfl) (fun K hK => ?_)
    have hR1 : Rd w1.heap.size w1 (x 2) R := by rw [h2]; exact Rd.blk 32 HRL.out (R4.out.below hb R4.out.lt) (Nat.lt_of_lt_of_le R4.out.lt hb.size) (by omega)
    refine wp_of_list rfl (wpList_app rfl (.tmp 38) (.tmp 39) 22 rfl 5 i0 Tryz.underlying22 HIN.out H0.out H1.out H2.out t6.heap.size w1.heap.size (x 1) (x 2) (be 4 Y) R rfl h1 rfl hR1 (by rw [be_length, HRL.out]; omega) hb.size ?_)
    intro v10 w10 hown10 hb10
    refine hK.out _ _ (.inr trivial) ?_
    clear hK K
    refine AnyTill.one (i := 4) (by kernel_rfl) rfl (by rfl) (fun K hK => ?_)
    refine hK.out _ _ (.inr trivial) ?_
    clear hK K
    refine AnyTill.done (by kernel_rfl) ?_
    refine NoPanic.normal ?_
    simp only [Act.put, Act.eval, List.setIfInBounds_toArray, List.set_cons_zero, List.set_cons_succ, Array.getD_eq_getD_getElem?, List.getElem?_toArray, List.getElem?_cons_zero, List.getElem?_cons_succ, Option.getD_some]
    have hbA : Below t6.heap.size t6 w10 := hb.trans hb10
    have S1 : Hid (Blk w10 g0 (kcs I q seed (k : Int)) 119) := R1.out.below hbA R1.out.lt
    have S4 : Hid (Blk w10 gR (bys R) 30) := R4.out.below hbA R4.out.lt
    have SB : Hid (Below w.heap.size w w10) := RB.out.trans (hbA.mono RB.out.size)
    obtain ⟨b7, hb7⟩ : ∃ b, t6.heap.size = b := ⟨_, rfl⟩
    have SO : Hid (Own 5 w10 b7 v10 (be 4 Y ++ R)) := by rw [← hb7]; exact hown10
    have hb7s : b7 ≤ w10.heap.size := by rw [← hb7]; exact hbA.size
    have g0b : g0 < b7 := by rw [← hb7]; exact R1.out.lt
    have hwb : w.heap.size ≤ b7 := by rw [← hb7]; exact RB.out.size
    generalize x 0 = y0
    generalize x 1 = y1
    generalize x 2 = y2
    clear hd h1 h2 hR1 hb hb10 hown10 hbA hb7 R1 R4 RB x
    go_wp2
    refine wp_region_rely2 12 0 (fun x => ⟨#[Value.agg (kcs I q seed ↑k).toArray, Value.slice At text.length ct, Value.pointer (some { block := g0, off := 0 }), undef, Value.slice none 0 0, Value.int IntKind.i64 0, Value.int IntKind.u32 ↑Y, Value.int IntKind.i64 0, v4, Value.pointer (some { block := gR, off := 0 }), v10, x 10, x 11, undef, undef, undef, undef, undef, Value.tuple #[Value.int IntKind.u32 ↑Y, Value.int IntKind.i64 0], Value.pointer (some { block := g0, off := 49 }), Value.int IntKind.i64 ↑k, Value.tuple #[Value.int IntKind.u32 ↑Y, Value.int IntKind.i64 0], Value.int IntKind.u32 ↑Y, Value.int IntKind.i64 0, Value.int IntKind.i64 0, Value.bool false, undef, Value.agg (kcs I q seed ↑k).toArray, hv, Value.slice (some { block := w2.heap.size, off := 0 }) 3 3, v3, v3, Value.pointer (some { block := g0, off := 17 }), Value.slice (some { block := g0, off := 17 }) 32 32, v4, v4, Value.agg (bys R).toArray, y0, y1, y2, v10, x 7, x 0, x 1, x 2, x 3, x 4, x 5, x 6, x 8, x 9, undef, undef, undef, undef, undef, undef, undef, undef, undef, undef, undef, undef, undef, undef, undef, undef, undef, undef, undef, undef, undef, undef, undef, undef, undef, undef, undef], []⟩) (fun jj => ([eqV (.agg (kcs I q seed (k : Int)).toArray), eqV (.slice (some ⟨gR, 0, none⟩) 32 32), eqV (.slice At text.length ct), (eqV (.agg (bys (hmsg (pre20 I q) R text)).toArray)), eqV (.pointer (some ⟨g0, 49, none⟩)), eqV (.int .i64 (k : Int)), (AlON D), (AlON D), (OwIN D), eqV (.int .i64 0), (OwIN D), eqV (.int .i64 0)] : List (Value → World → Prop)).getD jj (fun _ _ => True)) rfl ⟨fun kk => [_, _, _, _, _, _, _, _, _, _, _, _].getD kk undef, rfl⟩ (by kernel_rfl) (by kernel_rfl) ?steps ?fin
    case steps =>
      refine StepsAt.val 0 (.agg (kcs I q seed (k : Int)).toArray) rfl (fun _ _ => rfl) rfl rfl (fun x w9 hb hd => ?_) ?_
      · exact run_load_blkU 119 (.tmp 2) rfl g0 rfl (kcs I q seed (k : Int)) 119 (S1.out.below hb S1.out.lt) d32 HU.out HD.out H32.out
      refine StepsAt.val 1 (.slice (some ⟨gR, 0, none⟩) 32 32) rfl (fun _ _ => rfl) rfl rfl (fun x w9 hb hd => ?_) ?_
      · first | (go_simp; done) | (go_simp; rfl)
      refine StepsAt.val 2 (.slice At text.length ct) rfl (fun _ _ => rfl) rfl rfl (fun x w9 hb hd => ?_) ?_
      · first | (go_simp; done) | (go_simp; rfl)
      refine StepsAt.cons 3 (fun _ _ _ h hb => h) (fun _ _ => rfl) rfl rfl (fun x w9 hb hd K hK => ?_) ?_
      · have h0 : Hid (x 0 = .agg (kcs I q seed (k : Int)).toArray) := hd 0 (by kernel_rfl)
        have h1 : Hid (x 1 = .slice (some ⟨gR, 0, none⟩) 32 32) := hd 1 (by kernel_rfl)
        have h2 : Hid (x 2 = .slice At text.length ct) := hd 2 (by kernel_rfl)
        go_simp
        refine calls_args (args2 := #[.agg (kcs I q seed (k : Int)).toArray, .slice (some ⟨gR, 0, none⟩) 32 32, .slice At text.length ct]) (by rw [h0.out, h1.out, h2.out]) ?_
        refine (signed_any I seed R text q (k : Int) _ _ _ HI.out HS.out hq HRL.out (Rd.blk 32 HRL.out (S4.out.below hb S4.out.lt) (Nat.lt_of_lt_of_le S4.out.lt hb.size) (by omega)) (((HT.out.below SB.out).below (hb.mono SB.out.size)).more (Nat.le_trans SB.out.size hb.size)) HTL.out).mono ?_
        rintro e w2 ⟨rfl, hb2⟩
        exact hK.out _ _ hb2 rfl
      refine StepsAt.val 4 (.pointer (some ⟨g0, 49, none⟩)) rfl (fun _ _ => rfl) rfl rfl (fun x w9 hb hd => ?_) ?_
      · first | (go_simp; done) | (go_simp; rfl)
      refine StepsAt.val 5 (.int .i64 (k : Int)) rfl (fun _ _ => rfl) rfl rfl (fun x w9 hb hd => ?_) ?_
      · have h4 : x 4 = .pointer (some ⟨g0, 49, none⟩) := hd 4 (by kernel_rfl)
        have c := ((S1.out.below hb S1.out.lt).cell 49).trans (kcs_z I seed q (k : Int) HI.out HS.out)
        rw [h4]
        first | (go_simp; done) | (go_simp; rfl)
      refine StepsAt.cons 6 (fun _ _ _ h hb => AlON.keep h hb) (fun _ _ => rfl) rfl rfl (fun x w9 hb hd K hK => ?_) ?_
      · have h3 : Hid (x 3 = .agg (bys (hmsg (pre20 I q) R text)).toArray) := hd 3 (by kernel_rfl)
        have h5 : Hid (x 5 = .int .i64 (k : Int)) := hd 5 (by kernel_rfl)
        go_simp
        refine calls_args (args2 := #[.agg (bys (hmsg (pre20 I q) R text)).toArray, .int .i64 (k : Int)]) (by rw [h3.out, h5.out]) ?_
        refine (refAll_yes (hmsg (pre20 I q) R text) k _ HK.out (hmsg_length _ _ _)).mono ?_
        rintro e w2 ⟨u, rfl, hown, hb2⟩
        have hDD : allD (hmsg (pre20 I q) R text) k = D := by rw [← HRE.out]; exact HDE.out
        rw [hDD] at hown
        exact hK.out _ _ hb2 ⟨u, rfl, hown.base (Nat.zero_le _)⟩
      refine StepsAt.cons 7 (fun _ _ _ h hb => AlON.keep h hb) (fun _ _ => rfl) rfl rfl (fun x w9 hb hd K hK => ?_) ?_
      · have h6 : AlON D (x 6) w9 := hd 6 (by kernel_rfl)
        exact hK.out _ _ (Below.refl _ _) h6
      refine StepsAt.cons 8 (fun _ _ _ h hb => OwIN.keep h hb) (fun _ _ => rfl) rfl rfl (fun x w9 hb hd K hK => ?_) ?_
      · have h7 : AlON D (x 7) w9 := hd 7 (by kernel_rfl)
        obtain ⟨u, e7, hu⟩ := h7
        have key := hK.out u w9 (Below.refl _ _) hu
        simp only [Act.put, e7, List.setIfInBounds_toArray, List.set_cons_zero, List.set_cons_succ] at key
        go_simp
        exact key
      refine StepsAt.val 9 (.int .i64 0) rfl (fun _ _ => rfl) rfl rfl (fun x w9 hb hd => ?_) ?_
      · have h7 : AlON D (x 7) w9 := hd 7 (by kernel_rfl)
        obtain ⟨u, e7, hu⟩ := h7
        rw [e7]
        first | (go_simp; done) | (go_simp; rfl)
      refine StepsAt.cons 10 (fun _ _ _ h hb => OwIN.keep h hb) (fun _ _ => rfl) rfl rfl (fun x w9 hb hd K hK => ?_) ?_
      · have h8 : OwIN D (x 8) w9 := hd 8 (by kernel_rfl)
        exact hK.out _ _ (Below.refl _ _) h8
      refine StepsAt.val 11 (.int .i64 0) rfl (fun _ _ => rfl) rfl rfl (fun x w9 hb hd => ?_) ?_
      · have h9 : x 9 = .int .i64 0 := hd 9 (by kernel_rfl)
        rw [h9]
        first | (go_simp; done) | (go_simp; rfl)
      exact StepsAt.done
    case fin =>
      intro x w9 hb hd
      have h9 : x 11 = .int .i64 0 := hd 11 (by omega)
      have h8 : OwIN D (x 10) w9 := hd 10 (by omega)
      refine AnyTill.any (S := fun _ => True) (m := 12) _ _ _ _ ?_
      refine AnyTill.done (by kernel_rfl) ?_
      refine NoPanic.normal ?_
      rw [h9]
      obtain ⟨AD, cD, eD, hcD, hmD⟩ := RdI.shape (OwnI.rd h8)
      obtain ⟨aD, hAD, _⟩ := RdI.at_ (by rw [← eD]; exact OwnI.rd h8) 0 (by rw [HDL.out]; exact hM0)
      subst hAD
      rw [HDL.out] at eD hcD
      unfold maxLen at hmD
      have K0 : Hid (RSgAt w I seed q k g0 b7 D (.slice (some aD) M cD) v10 (be 4 Y ++ R ++ rowsTo (sgnF (pre20 I q) seed D) 0) w9) :=
        ⟨S1.out.below hb S1.out.lt, by rw [← eD]; exact h8, by simpa [rowsTo] using SO.out.below hb (Nat.le_refl _), Nat.le_trans hb7s hb.size, SB.out.trans (hb.mono SB.out.size)⟩
      generalize x 0 = z0
      generalize x 1 = z1
      generalize x 2 = z2
      generalize x 3 = z3
      generalize x 4 = z4
      generalize x 5 = z5
      generalize x 6 = z6
      generalize x 7 = z7
      generalize x 8 = z8'
      generalize x 9 = z9
      rw [eD]
      clear hd h8 h9 eD hb S1 S4 SO SB hb7s x
      go_wp2
      go_loopw [10, 13] (fun v x wr => ∃ i : Nat, i ≤ M ∧ x = .int .i64 (i : Int) ∧ Hid (RSgAt w I seed q k g0 b7 D (.slice (some aD) M cD) v (be 4 Y ++ R ++ rowsTo (sgnF (pre20 I q) seed D) i) wr)) (fun _ x _ => M - (intOf x).toNat)
      case atStart => exact ⟨0, by omega, rfl, K0⟩
      case round =>
        clear K0
        obtain ⟨i, hi, rfl, KK⟩ := hrel
        have hel : (be 4 Y ++ R ++ rowsTo (sgnF (pre20 I q) seed D) i).length = 36 + 32 * i := by
          rw [List.length_append, List.length_append, be_length, HRL.out, rowsTo_length _ (sgnF_length _ _ _)]
        obtain ⟨A4, c4, hv4, hc4, hm4⟩ := KK.out.2.2.1.rd.shape
        rw [hel] at hv4 hc4
        subst hv4
        unfold maxLen at hm4
        have HEL := Lib.hid hel
        clear hel
        by_cases hi2 : i < M
        · have zi : (i : Int) < (M : Int) := by omega
          have hiM : Hid (i < mny k) := by show _ < _; rw [HME.out]; exact hi2
          obtain ⟨S, hS⟩ : ∃ S, hsec (pre20 I q) seed i = S := ⟨_, rfl⟩
          have hSl : S.length = 32 := by rw [← hS]; exact hsec_length _ _ _
          have HSE := Lib.hid hS
          have HSL := Lib.hid hSl
          have H24s : Hid ((Tryz.prog.info? 30).map (·.size) = some (bys S).length) := by show _ = _; rw [bys_length, hSl]; exact s24
          have HLZs : Hid (z32.length = (bys S).length) := by show _ = _; rw [bys_length, hSl, z32_length]
          have H24e : Hid ((Tryz.prog.info? 30).map (·.size) = some (bys (sgnF (pre20 I q) seed D i)).length) := by show _ = _; rw [bys_length, sgnF_length]; exact s24
          have HLZe : Hid (z32.length = (bys (sgnF (pre20 I q) seed D i)).length) := by show _ = _; rw [bys_length, sgnF_length, z32_length]
          clear hS hSl
          go_wp2_with (refine wpList_load_blkU rfl 119 _ rfl g0 rfl (kcs I q seed (k : Int)) 119 KK.out.1 d32 HU.out HD.out H32.out ?_)
          refine (refSecret_yes I seed q k i _ HI.out HS.out hq HK.out hiM.out).mono ?_
          rintro e wa ⟨rfl, hb⟩
          rw [HSE.out]
          have KA := Lib.hid (KK.out.below hb)
          clear hb KK
          go_wp2_with (refine wpList_alloc_blk rfl 30 rfl _ z24 ?_)
          intro wb a1 a2 a3
          obtain ⟨gS, hgS⟩ : ∃ g, wa.heap.size = g := ⟨_, rfl⟩
          rw [hgS] at a1 a2 a3 ⊢
          have A1 := Lib.hid a1
          obtain ⟨wf, hwf⟩ : ∃ t, wb.setRow gS (bys S).toArray = t := ⟨_, rfl⟩
          have hbf : Below wa.heap.size wa wf := by rw [← hwf, hgS]; exact below_setRow' a3 (Nat.le_refl _) _
          have KF := Lib.hid (KA.out.below hbf)
          have LS : Hid (Blk wf gS (bys S) 30) := by rw [← hwf]; exact a1.setRow
          clear a1 a2 a3 hgS hbf KA
          go_wp2_with (first | (refine wpList_store_blk rfl 30 _ _ rfl gS (bys S) z32 30 rfl rfl A1.out H24s.out HLZs.out (bys_one' _) ?_; rw [hwf]))
          clear A1 hwf
          obtain ⟨d, hd⟩ : ∃ d, D.getD i 0 = d := ⟨_, rfl⟩
          have cd : Hid (∀ w', Below wf.heap.size wf w' → w'.cell? (aD.add i) = some (.int .i64 (d : Int))) := by
            intro w' hb'
            obtain ⟨aD', hAD, c⟩ := ((KF.out.2.1.below hb' (Nat.le_refl _)).rd).at_ i (by rw [HDL.out]; exact hi2)
            injection hAD with hAD
            subst hAD
            rw [hd] at c
            exact c
          have hdg : d ≤ gr k := by rw [← hd]; exact HDG.out i
          have HDI := Lib.hid hd
          clear hd
          refine wp_region_relyG 14 0 (LayG z32 30 wf.heap.size (bys (sgnF (pre20 I q) seed D i))) (fun x => ⟨#[Value.agg (kcs I q seed ↑k).toArray, Value.slice At text.length ct, Value.pointer (some { block := g0, off := 0 }), undef, Value.slice none 0 0, Value.int IntKind.i64 0, Value.int IntKind.u32 ↑Y, Value.int IntKind.i64 0, v4, Value.pointer (some { block := gR, off := 0 }), Value.slice A4 (36 + 32 * i) c4, Value.slice (some aD) M cD, Value.int IntKind.i64 0, Value.int IntKind.i64 ↑i, Value.pointer (some { block := gS, off := 0 }), Value.int IntKind.i64 0, x 11, x 13, Value.tuple #[Value.int IntKind.u32 ↑Y, Value.int IntKind.i64 0], Value.pointer (some { block := g0, off := 49 }), Value.int IntKind.i64 ↑k, Value.tuple #[Value.int IntKind.u32 ↑Y, Value.int IntKind.i64 0], Value.int IntKind.u32 ↑Y, Value.int IntKind.i64 0, Value.int IntKind.i64 0, Value.bool false, undef, Value.agg (kcs I q seed ↑k).toArray, hv, Value.slice (some { block := w2.heap.size, off := 0 }) 3 3, v3, v3, Value.pointer (some { block := g0, off := 17 }), Value.slice (some { block := g0, off := 17 }) 32 32, v4, v4, Value.agg (bys R).toArray, y0, y1, y2, v10, z7, z0, z1, z2, z3, z4, z5, z6, z8', z9, Value.int IntKind.i64 ↑i, Value.slice (some aD) M cD, Value.int IntKind.i64 ↑M, Value.bool true, u55, u56, Value.tuple #[Value.agg (bys S).toArray, Value.int IntKind.i64 0], Value.agg (kcs I q seed ↑k).toArray, Value.int IntKind.i64 ↑i, Value.tuple #[Value.agg (bys S).toArray, Value.int IntKind.i64 0], Value.agg (bys S).toArray, Value.int IntKind.i64 0, x 8, x 0, x 1, x 2, x 3, x 4, x 5, x 6, x 7, x 9, x 10, u74, u75, u76, undef], []⟩) (fun jj => ([(fun x w => eqV (.agg (kcs I q seed (k : Int)).toArray) (x 0) w), (fun x w => eqV (.int .i64 (i : Int)) (x 1) w), (fun x w => eqV (.slice (some aD) M cD) (x 2) w), (fun x w => eqV (.int .i64 (i : Int)) (x 3) w), (fun x w => eqV (.pointer (some (aD.add i))) (x 4) w), (fun x w => eqV (.int .i64 (d : Int)) (x 5) w), (fun x w => eqV (.agg (bys S).toArray) (x 6) w), (fun x w => (eqV (.tuple #[.agg (bys (sgnF (pre20 I q) seed D i)).toArray, .int .i64 0])) (x 7) w), (fun x w => eqV (.tuple #[.agg (bys (sgnF (pre20 I q) seed D i)).toArray, .int .i64 0]) (x 8) w), (fun x w => eqV (.agg (bys (sgnF (pre20 I q) seed D i)).toArray) (x 9) w), (fun x w => eqV (.int .i64 0) (x 10) w), (fun x w => (NewG z32 30 wf.heap.size (bys (sgnF (pre20 I q) seed D i))) (x 11) w), (fun x w => ∃ g, x 11 = .pointer (some ⟨g, 0, none⟩) ∧ wf.heap.size ≤ g ∧ Blk w g (bys (sgnF (pre20 I q) seed D i)) 30), (fun x w => eqV (.int .i64 0) (x 13) w)] : List ((Nat → Value) → World → Prop)).getD jj (fun _ _ => True)) rfl ⟨fun kk => [_, _, _, _, _, _, _, _, _, _, _, _, undef, _].getD kk undef, rfl⟩ (LayG.drew _ _ _ _ _) (fun _ _ _ h k => h.trans k) (by kernel_rfl) (by kernel_rfl) ?steps ?fin
          case steps =>
            refine StepsG.val 0 (.agg (kcs I q seed (k : Int)).toArray) (fun w => LayG.refl _ _ _ _ w) rfl (fun _ _ => rfl) rfl rfl (fun x w9 hb hd => ?_) ?_
            · exact run_load_blkU 119 (.tmp 2) rfl g0 rfl (kcs I q seed (k : Int)) 119 (KF.out.1.below hb.below KF.out.1.lt) d32 HU.out HD.out H32.out
            refine StepsG.val 1 (.int .i64 (i : Int)) (fun w => LayG.refl _ _ _ _ w) rfl (fun _ _ => rfl) rfl rfl (fun x w9 hb hd => ?_) ?_
            · first | (go_simp; done) | (go_simp; rfl)
            refine StepsG.val 2 (.slice (some aD) M cD) (fun w => LayG.refl _ _ _ _ w) rfl (fun _ _ => rfl) rfl rfl (fun x w9 hb hd => ?_) ?_
            · first | (go_simp; done) | (go_simp; rfl)
            refine StepsG.val 3 (.int .i64 (i : Int)) (fun w => LayG.refl _ _ _ _ w) rfl (fun _ _ => rfl) rfl rfl (fun x w9 hb hd => ?_) ?_
            · first | (go_simp; done) | (go_simp; rfl)
            refine StepsG.val 4 (.pointer (some (aD.add i))) (fun w => LayG.refl _ _ _ _ w) rfl (fun _ _ => rfl) rfl rfl (fun x w9 hb hd => ?_) ?_
            · have h2 : x 2 = .slice (some aD) M cD := hd 2 (by kernel_rfl)
              have h3 : x 3 = .int .i64 (i : Int) := hd 3 (by kernel_rfl)
              rw [h2, h3]
              first | (go_simp; done) | (go_simp; rfl)
            refine StepsG.val 5 (.int .i64 (d : Int)) (fun w => LayG.refl _ _ _ _ w) rfl (fun _ _ => rfl) rfl rfl (fun x w9 hb hd => ?_) ?_
            · have h4 : x 4 = .pointer (some (aD.add i)) := hd 4 (by kernel_rfl)
              have c := cd.out w9 hb.below
              rw [h4]
              first | (go_simp; done) | (go_simp; rfl)
            refine StepsG.val 6 (.agg (bys S).toArray) (fun w => LayG.refl _ _ _ _ w) rfl (fun _ _ => rfl) rfl rfl (fun x w9 hb hd => ?_) ?_
            · exact run_load_blk 30 (.tmp 14) rfl gS rfl (bys S) 30 (LS.out.below hb.below LS.out.lt) 32 5 tu24 H24s.out
            refine StepsG.cons 7 (eqV (.tuple #[.agg (bys (sgnF (pre20 I q) seed D i)).toArray, .int .i64 0])) rfl (fun _ _ _ h hb => h) (fun _ _ => rfl) rfl rfl (fun x w9 hb hd K hK => ?_) ?_
            · have h0 : Hid (x 0 = .agg (kcs I q seed (k : Int)).toArray) := hd 0 (by kernel_rfl)
              have h1 : Hid (x 1 = .int .i64 (i : Int)) := hd 1 (by kernel_rfl)
              have h5 : Hid (x 5 = .int .i64 (d : Int)) := hd 5 (by kernel_rfl)
              have h6 : Hid (x 6 = .agg (bys S).toArray) := hd 6 (by kernel_rfl)
              go_simp
              refine calls_args (args2 := #[.agg (kcs I q seed (k : Int)).toArray, .int .i64 (i : Int), .int .i64 ((0 : Nat) : Int), .int .i64 ((0 + d : Nat) : Int), .agg (bys S).toArray]) (by rw [h0.out, h1.out, h5.out, h6.out, Nat.zero_add]; rfl) ?_
              refine (refChain_yes I seed S q k i 0 d _ HI.out HS.out HSL.out hq HK.out hiM.out (by rw [Nat.zero_add]; exact hdg)).mono ?_
              rintro e w2 ⟨rfl, hb2⟩
              refine hK.out _ _ (LayG.grow hb2 hb.below.size) ?_
              unfold sgnF
              rw [HDI.out, HSE.out]
              rfl
            refine StepsG.val 8 (.tuple #[.agg (bys (sgnF (pre20 I q) seed D i)).toArray, .int .i64 0]) (fun w => LayG.refl _ _ _ _ w) rfl (fun _ _ => rfl) rfl rfl (fun x w9 hb hd => ?_) ?_
            · have h7 : x 7 = .tuple #[.agg (bys (sgnF (pre20 I q) seed D i)).toArray, .int .i64 0] := hd 7 (by kernel_rfl)
              rw [h7]
              first | (go_simp; done) | (go_simp; rfl)
            refine StepsG.val 9 (.agg (bys (sgnF (pre20 I q) seed D i)).toArray) (fun w => LayG.refl _ _ _ _ w) rfl (fun _ _ => rfl) rfl rfl (fun x w9 hb hd => ?_) ?_
            · have h8 : x 8 = .tuple #[.agg (bys (sgnF (pre20 I q) seed D i)).toArray, .int .i64 0] := hd 8 (by kernel_rfl)
              rw [h8]
              first | (go_simp; done) | (go_simp; rfl)
            refine StepsG.val 10 (.int .i64 0) (fun w => LayG.refl _ _ _ _ w) rfl (fun _ _ => rfl) rfl rfl (fun x w9 hb hd => ?_) ?_
            · have h8 : x 8 = .tuple #[.agg (bys (sgnF (pre20 I q) seed D i)).toArray, .int .i64 0] := hd 8 (by kernel_rfl)
              rw [h8]
              first | (go_simp; done) | (go_simp; rfl)
            refine StepsG.cons 11 (NewG z32 30 wf.heap.size (bys (sgnF (pre20 I q) seed D i))) rfl (fun _ _ _ h hb => NewG.keep h hb) (fun _ _ => rfl) rfl rfl (fun x w9 hb hd K hK => ?_) ?_
            · refine wp_of_list rfl (wpList_alloc_blk rfl 30 rfl _ z24 ?_)
              intro w2 c1 c2 c3
              exact hK.out _ _ (LayG.grow c3 hb.below.size) ⟨_, rfl, hb.below.size, .inl c1⟩
            refine StepsG.consX 12 (fun x i v w w' hi hdp h hb => by obtain ⟨g, h1, h2, h3⟩ := h; exact ⟨g, by rw [upd_ne _ _ _ _ (fun e => hdp (by rw [← e]; decide))]; exact h1, h2, hb.done g h3⟩) (fun _ _ => rfl) rfl rfl (fun x w9 hb hd K hK => ?_) ?_
            · have h9 : Hid (x 9 = .agg (bys (sgnF (pre20 I q) seed D i)).toArray) := hd 9 (by kernel_rfl)
              have h11 : NewG z32 30 wf.heap.size (bys (sgnF (pre20 I q) seed D i)) (x 11) w9 := hd 11 (by kernel_rfl)
              obtain ⟨g, e10, hgb, hor⟩ := h11
              rcases hor with hz | hz
              · refine wp_store_blk 30 (.tmp 16) (.tmp 72) rfl g (bys (sgnF (pre20 I q) seed D i)) z32 30 e10 h9.out hz H24e.out HLZe.out (bys_one' _) ?_
                exact hK.out undef _ (LayG.lay hgb (.inl hz)) ⟨g, by rw [upd_ne _ _ _ _ (by omega)]; exact e10, hgb, hz.setRow⟩
              · refine wp_store_blk 30 (.tmp 16) (.tmp 72) rfl g (bys (sgnF (pre20 I q) seed D i)) (bys (sgnF (pre20 I q) seed D i)) 30 e10 h9.out hz H24e.out rfl (bys_one' _) ?_
                exact hK.out undef _ (LayG.lay hgb (.inr hz)) ⟨g, by rw [upd_ne _ _ _ _ (by omega)]; exact e10, hgb, hz.setRow⟩
            refine StepsG.val 13 (.int .i64 0) (fun w => LayG.refl _ _ _ _ w) rfl (fun _ _ => rfl) rfl rfl (fun x w9 hb hd => ?_) ?_
            · have h10 : x 10 = .int .i64 0 := hd 10 (by kernel_rfl)
              rw [h10]
              first | (go_simp; done) | (go_simp; rfl)
            exact StepsG.done
          case fin =>
            intro x w9 hb hd
            have f13 : x 13 = .int .i64 0 := hd 13 (by omega)
            obtain ⟨gE, e11, hgb, hz⟩ : ∃ g, x 11 = .pointer (some ⟨g, 0, none⟩) ∧ wf.heap.size ≤ g ∧ Blk w9 g (bys (sgnF (pre20 I q) seed D i)) 30 := hd 12 (by omega)
            refine AnyTill.any (S := fun _ => True) (m := 14) _ _ _ _ ?_
            refine AnyTill.done (by kernel_rfl) ?_
            refine NoPanic.normal ?_
            rw [f13, e11]
            generalize x 0 = p0
            generalize x 1 = p1
            generalize x 2 = p2
            generalize x 3 = p3
            generalize x 4 = p4
            generalize x 5 = p5
            generalize x 6 = p6
            generalize x 7 = p7
            generalize x 8 = p8
            generalize x 9 = p9
            generalize x 10 = p10
            have KG := Lib.hid (KF.out.below hb.below)
            have LE : Hid (Blk w9 gE (bys (sgnF (pre20 I q) seed D i)) 30) := hz
            have hgE : gE < w9.heap.size := LE.out.lt
            clear hd f13 e11 hgb hz hb KF LS cd x
            go_wp2_with (at_builtin; refine wpList_app_grown rfl _ _ 22 rfl 5 i0 Tryz.underlying22 HIN.out H0.out H1.out H2.out b7 w9.heap.size _ _ (be 4 Y ++ R ++ rowsTo (sgnF (pre20 I q) seed D) i) (sgnF (pre20 I q) seed D i) rfl KG.out.2.2.1 rfl (Rd.blk 32 (sgnF_length _ _ _ _) LE.out hgE (by omega)) (by rw [sgnF_length]; omega) (by rw [HEL.out, sgnF_length]; omega) KG.out.2.2.2.1 ?_)
            intro v5 w5 hown5 hgr5
            have K5 : Hid (RSgAt w I seed q k g0 b7 D (.slice (some aD) M cD) v5 (be 4 Y ++ R ++ rowsTo (sgnF (pre20 I q) seed D) (i + 1)) w5) := by
              obtain ⟨f1, f3, f4, f5, f6⟩ := KG.out
              have hb5 : Below b7 w9 w5 := Own.grown f4 hgr5 f5
              rw [rowsTo_succ]
              exact ⟨f1.below hb5 g0b, f3.other f4 hgr5, (by simpa only [List.append_assoc] using hown5), Nat.le_trans f5 hb5.size, f6.trans (hb5.mono hwb)⟩
            clear hown5 hgr5 KG LE hgE
            go_wp2
            go_roundw
            case rel => exact ⟨i + 1, by omega, by go_num, K5⟩
            case measure => simp [intOf]; omega
        · have hiM : i = M := by omega
          subst hiM
          have zi : ¬ ((i : Int) < (i : Int)) := by omega
          have NO : Hid (Own 5 wr b7 (.slice A4 (36 + 32 * i) c4) (sigL (pre20 I q) seed text k)) := by
            have h := KK.out.2.2.1
            have e1 : be 4 Y ++ R ++ rowsTo (sgnF (pre20 I q) seed D) i = sigL (pre20 I q) seed text k := by unfold sigL; rw [HYE.out, HRE.out, HDE.out, HME.out]
            rw [e1] at h
            exact h
          have NB : Hid (Below w.heap.size w wr) := KK.out.2.2.2.2
          clear KK
          go_wp2
          go_ret2
          exact ⟨_, rfl, NO.out.base hwb, NB.out⟩
end Go.Proofs.YtllncnnigjgadaaGreat

namespace Go.Proofs.YtllncnnigjgadaaGreat
open Go.RowKit

end Go.Proofs.YtllncnnigjgadaaGreat

namespace Go.Proofs.YtllncnnigjgadaaGreat
open Go.RowKit

end Go.Proofs.YtllncnnigjgadaaGreat

namespace Go.Proofs.YtllncnnigjgadaaGreat
open Go.RowKit

end Go.Proofs.YtllncnnigjgadaaGreat
