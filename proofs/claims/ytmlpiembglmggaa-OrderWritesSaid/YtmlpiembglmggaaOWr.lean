/-
  The statements on orders: OrderWrites.
-/
import Derived.Test.YtmlpiembglmggaaNS
import Derived.Test.YtmlpiembglmggaaNG
namespace Go.Proofs.Ytmlpiembglmggaa
open Go.RowKit
theorem wrMay (o : Or) (b : Bool) (h : mayO o = b) (w : World) : Calls Try.prog 16 #[.agg (orc o).toArray] w (One (.bool b) w) := by
  rw [← h]
  exact orMay_any o w
theorem wrRfMay (o : Or) (b : Bool) (h : mayO o = b) (w : World) : Calls Try.prog 17 #[.agg (orc o).toArray] w (One (.bool b) w) := by
  rw [← h]
  exact rfMayO_any o w
theorem wrSame (r : Rp) (z : Int) (b : Bool) (h : decide (pR r = z) = b) (nv nu : Value) (w : World) (hr : RdS w.heap.size w nv (pN r)) (hr2 : RdS w.heap.size w nu (pN r)) (hn : (pN r).length ≤ 1000000) : Calls Try.prog 18 #[.agg (rpc r nv).toArray, .agg (rpc (pC r, pQ r, pE r, pV r, z, pN r) nu).toArray] w (One (.bool b) w) := by
  rw [← h]
  exact orSame_any r z nv nu w hr hr2 hn
theorem wrRfSame (r : Rp) (z : Int) (b : Bool) (h : decide (pR r = z) = b) (nv nu : Value) (w : World) (hr : RdS w.heap.size w nv (pN r)) (hr2 : RdS w.heap.size w nu (pN r)) (hn : (pN r).length ≤ 1000000) : Calls Try.prog 19 #[.agg (rpc r nv).toArray, .agg (rpc (pC r, pQ r, pE r, pV r, z, pN r) nu).toArray] w (One (.bool b) w) := by
  rw [← h]
  exact rfSameR_any r z nv nu w hr hr2 hn
set_option maxRecDepth 1000000 in
set_option maxHeartbeats 16000000 in
theorem writesO_all (v : Value) (l : List UInt8) (o : Or) (r : Rp) (nv : Value) (w : World) (hr : Rd w.heap.size w v l) (hr2 : RdS w.heap.size w nv (pN r)) (fo : ∀ n ∈ nsO o, fit64 n) (fr : ∀ n ∈ nsR r, fit64 n) (hl : l.length ≤ 140737488355328) (hp : (oP o).length ≤ 140737488355328) (hq : (oV o).length ≤ 140737488355328) (hv : (pV r).length ≤ 140737488355328) (hs : ∀ s ∈ pN r, s.size ≤ 140737488355328) :
    Calls Try.prog 3 #[v, .agg (orc o).toArray, .agg (rpc r nv).toArray] w (One (.bool true) w) := by
  obtain ⟨A, c, rfl, hc, hm⟩ := hr.shape
  obtain ⟨An, cn, rfl, -, -⟩ := hr2.shape
  obtain ⟨i0, hI, hz0, hz1, hz2⟩ := info_parts info5
  unfold maxLen at hm
  obtain ⟨n, hn⟩ : ∃ n, l.length = n := ⟨_, rfl⟩
  have HN := Lib.hid hn
  have HR := Lib.hid hr
  have HS := Lib.hid hr2
  have FO := Lib.hid fo
  have FR := Lib.hid fr
  have HV := Lib.hid hv
  have HSZ := Lib.hid hs
  obtain ⟨kp, hkp⟩ : ∃ k, (oP o).length = k := ⟨_, rfl⟩
  have hkz : (⟨(oP o).toArray⟩ : ByteArray).size = kp := hkp
  obtain ⟨kv, hkv⟩ : ∃ k, (oV o).length = k := ⟨_, rfl⟩
  have hvz : (⟨(oV o).toArray⟩ : ByteArray).size = kv := hkv
  have HKP := Lib.hid hkp
  have HKV := Lib.hid hkv
  rw [hn] at HR hc hl ⊢
  rw [hkp] at hp
  rw [hkv] at hq
  clear hr hn hr2 fo fr hv hs hkp hkv
  obtain ⟨MB, hMB⟩ : ∃ b, mayO o = b := ⟨_, rfl⟩
  obtain ⟨SB, hSB⟩ : ∃ b, decide (pR r = oR o) = b := ⟨_, rfl⟩
  have HMB := Lib.hid hMB
  have HSB := Lib.hid hSB
  clear hMB hSB
  go_enter Try.func3, Try.ntmps3
  go_wp2_with (refine wpList_box_blk rfl 24 _ rfl (orc o) rfl ?_)
  intro y0 b1 b2 b3
  obtain ⟨gb0, hg⟩ : ∃ g, w.heap.size = g := ⟨_, rfl⟩
  have X0 := Lib.hid b1
  have EB0 := Lib.hid b3
  rw [hg] at X0 ⊢
  clear b1 b2 b3 hg
  go_wp2_with (refine wpList_box_blk rfl 28 _ rfl (rpc r (.slice An (pN r).length cn)) rfl ?_)
  intro y1 b1 b2 b3
  obtain ⟨gb1, hg⟩ : ∃ g, y0.heap.size = g := ⟨_, rfl⟩
  have X1 := Lib.hid b1
  have EB1 := Lib.hid b3
  rw [hg] at X1 ⊢
  clear b1 b2 b3 hg
  have P0_w := Lib.hid (EB0.out.trans (EB1.out.mono EB0.out.size))
  have c_X0 := (X0.out.below EB1.out X0.out.lt).at_ 0 _ rfl
  have c_X0_1 := (X0.out.below EB1.out X0.out.lt).at_ 1 _ rfl
  have c_X0_2 := (X0.out.below EB1.out X0.out.lt).at_ 2 _ rfl
  have c_X0_3 := (X0.out.below EB1.out X0.out.lt).at_ 3 _ rfl
  have c_X0_4 := (X0.out.below EB1.out X0.out.lt).at_ 4 _ rfl
  have c_X0_5 := (X0.out.below EB1.out X0.out.lt).at_ 5 _ rfl
  have c_X0_6 := (X0.out.below EB1.out X0.out.lt).at_ 6 _ rfl
  have c_X0_7 := (X0.out.below EB1.out X0.out.lt).at_ 7 _ rfl
  have c_X1 := X1.out.at_ 0 _ rfl
  have c_X1_1 := X1.out.at_ 1 _ rfl
  have c_X1_2 := X1.out.at_ 2 _ rfl
  have c_X1_3 := X1.out.at_ 3 _ rfl
  have c_X1_4 := X1.out.at_ 4 _ rfl
  have c_X1_5 := X1.out.at_ 5 _ rfl
  have z1 : (0 : Int) ≤ (n : Int) + (kp : Int) := by omega
  have z2 : (n : Int) + (kp : Int) ≤ 9223372036854775807 := by omega
  have z3 : (0 : Int) ≤ (n : Int) + (kp : Int) + (kv : Int) := by omega
  have z4 : (n : Int) + (kp : Int) + (kv : Int) ≤ 9223372036854775807 := by omega
  by_cases hk : (4000 : Int) < (n : Int) + (kp : Int) + (kv : Int)
  · go_wp2_with fail
    refine (alive12 y1).mono ?_
    rintro e W1 ⟨rfl, hb⟩
    have E1 := Lib.hid hb
    clear hb c_X0 c_X0_1 c_X0_2 c_X0_3 c_X0_4 c_X0_5 c_X0_6 c_X0_7 c_X1 c_X1_1 c_X1_2 c_X1_3 c_X1_4 c_X1_5
    have P1_w := Lib.hid (P0_w.out.trans (E1.out.mono P0_w.out.size))
    clear P0_w
    have P1_y0 := Lib.hid (EB1.out.trans (E1.out.mono EB1.out.size))
    go_wp2
    go_ret
    exact ⟨rfl, P1_w.out⟩
  go_wp2_with fail
  refine (longO_any r (.slice An (pN r).length cn) y1 ((HS.out.below P0_w.out).more P0_w.out.size) HV.out HSZ.out).mono ?_
  rintro e W1 ⟨rfl, hb⟩
  have E1 := Lib.hid hb
  clear hb c_X0 c_X0_1 c_X0_2 c_X0_3 c_X0_4 c_X0_5 c_X0_6 c_X0_7 c_X1 c_X1_1 c_X1_2 c_X1_3 c_X1_4 c_X1_5
  have P1_w := Lib.hid (P0_w.out.trans (E1.out.mono P0_w.out.size))
  clear P0_w
  have P1_y0 := Lib.hid (EB1.out.trans (E1.out.mono EB1.out.size))
  have HLL : Hid (l.length ≤ 4000 ∧ (oP o).length + (oV o).length ≤ 4000) := by
    show _ ∧ _
    rw [HN.out, HKP.out, HKV.out]
    omega
  by_cases hg : (4000 : Int) < longR r
  · go_wp2_with fail
    refine (alive12 W1).mono ?_
    rintro e W2 ⟨rfl, hb⟩
    have E2 := Lib.hid hb
    clear hb
    have P2_w := Lib.hid (P1_w.out.trans (E2.out.mono P1_w.out.size))
    clear P1_w
    have P2_y0 := Lib.hid (P1_y0.out.trans (E2.out.mono P1_y0.out.size))
    clear P1_y0
    have P2_y1 := Lib.hid (E1.out.trans (E2.out.mono E1.out.size))
    go_wp2
    go_ret
    exact ⟨rfl, P2_w.out⟩
  have HLS : Hid ((pV r).length + sumS (pN r) ≤ 4000) := by
    have h := long_sum (r := r) (B := 4000) (by omega) (by decide)
    show _ ≤ _
    omega
  have HCN : Hid ((pN r).length ≤ 1000000) := by
    have h1 := len_sum (pN r)
    have h2 := HLS.out
    show _ ≤ _
    omega
  have HO8 := Lib.hid (Own.made 5 W1)
  have HB8 : Hid (Below W1.heap.size W1 (W1.alloc (.cells #[] 5))) := (Below.refl _ _).alloc (Nat.le_refl _) _
  have HR8 := Lib.hid (((HR.out.below P1_w.out).more P1_w.out.size).below HB8.out)
  go_wp2_with (at_builtin; refine wpList_app rfl _ _ 22 rfl 5 i0 Try.underlying22 hI hz0 hz1 hz2 W1.heap.size W1.heap.size _ _ [] l rfl HO8.out rfl HR8.out ?c1 HB8.out.size ?_)
  case c1 => have := HLL.out; simp only [List.length_nil]; omega
  intro vo W2 hown hb5
  have RO := Lib.hid (show Rd _ _ _ l from hown.rd)
  have E2 := Lib.hid (HB8.out.trans hb5)
  clear hown hb5 HO8 HB8 HR8 hk hg z1 z2 z3 z4
  have P2_w := Lib.hid (P1_w.out.trans (E2.out.mono P1_w.out.size))
  clear P1_w
  have P2_y0 := Lib.hid (P1_y0.out.trans (E2.out.mono P1_y0.out.size))
  clear P1_y0
  have P2_y1 := Lib.hid (E1.out.trans (E2.out.mono E1.out.size))
  obtain ⟨Ao, co, hvo, -, -⟩ := RO.out.shape
  subst hvo
  rw [HN.out] at RO ⊢
  have c_X0 := (X0.out.below P2_y0.out X0.out.lt).at_ 0 _ rfl
  have c_X0_1 := (X0.out.below P2_y0.out X0.out.lt).at_ 1 _ rfl
  have c_X0_2 := (X0.out.below P2_y0.out X0.out.lt).at_ 2 _ rfl
  have c_X0_3 := (X0.out.below P2_y0.out X0.out.lt).at_ 3 _ rfl
  have c_X0_4 := (X0.out.below P2_y0.out X0.out.lt).at_ 4 _ rfl
  have c_X0_5 := (X0.out.below P2_y0.out X0.out.lt).at_ 5 _ rfl
  have c_X0_6 := (X0.out.below P2_y0.out X0.out.lt).at_ 6 _ rfl
  have c_X0_7 := (X0.out.below P2_y0.out X0.out.lt).at_ 7 _ rfl
  have c_X1 := (X1.out.below P2_y1.out X1.out.lt).at_ 0 _ rfl
  have c_X1_1 := (X1.out.below P2_y1.out X1.out.lt).at_ 1 _ rfl
  have c_X1_2 := (X1.out.below P2_y1.out X1.out.lt).at_ 2 _ rfl
  have c_X1_3 := (X1.out.below P2_y1.out X1.out.lt).at_ 3 _ rfl
  have c_X1_4 := (X1.out.below P2_y1.out X1.out.lt).at_ 4 _ rfl
  have c_X1_5 := (X1.out.below P2_y1.out X1.out.lt).at_ 5 _ rfl
  go_wp2_with (refine wpList_alloc_blk rfl 28 rfl (rpc rp0 (.slice none 0 0)) zeroRpP ?_)
  intro vb3 a1 a2 a3
  obtain ⟨vg3, hg⟩ : ∃ g, W2.heap.size = g := ⟨_, rfl⟩
  have AA := Lib.hid a1
  have hbg : W2.heap.size ≤ vg3 := by omega
  have EC := Lib.hid (show Below W2.heap.size W2 vb3 from a3)
  rw [hg] at AA ⊢
  clear a1 a2 a3 hg c_X0 c_X0_1 c_X0_2 c_X0_3 c_X0_4 c_X0_5 c_X0_6 c_X0_7 c_X1 c_X1_1 c_X1_2 c_X1_3 c_X1_4 c_X1_5
  go_wp2_with (refine wpList_store_to rfl 28 _ _ rfl vg3 (rpc (pC r, pQ r, pE r, pV r, oR o, pN r) (.slice An (pN r).length cn)) (rpc rp0 (.slice none 0 0)) 28 rfl rfl AA.out szRpP rfl (rpc_all _ _ _ _) ?_)
  intro W3 e1 e2 e3 e4
  have X8 := Lib.hid e1
  have E3 := Lib.hid (EC.out.trans (e3.mono hbg))
  clear e1 e2 e3 e4 AA EC hbg
  have P3_w := Lib.hid (P2_w.out.trans (E3.out.mono P2_w.out.size))
  clear P2_w
  have P3_y0 := Lib.hid (P2_y0.out.trans (E3.out.mono P2_y0.out.size))
  clear P2_y0
  have P3_y1 := Lib.hid (P2_y1.out.trans (E3.out.mono P2_y1.out.size))
  clear P2_y1
  have P3_W1 := Lib.hid (E2.out.trans (E3.out.mono E2.out.size))
  go_wp2
  have ZX0 := Lib.hid (X0.out.below P3_y0.out X0.out.lt)
  have ZX1 := Lib.hid (X1.out.below P3_y1.out X1.out.lt)
  have ZX8 := Lib.hid X8.out
  have ZRO := Lib.hid ((RO.out.below E3.out).more E3.out.size)
  have ZHR := Lib.hid ((HR.out.below P3_w.out).more P3_w.out.size)
  have ZHS := Lib.hid ((HS.out.below P3_w.out).more P3_w.out.size)
  refine wp_region_rely2 23 0 (fun x => ⟨#[.slice A n c, .agg (orc o).toArray, .agg (rpc r (Value.slice An (pN r).length cn)).toArray, undef, .pointer (some { block := gb0, off := 0 }), .pointer (some { block := gb1, off := 0 }), .bool false, .slice Ao n co, .pointer (some { block := vg3, off := 0 }), x 22, .slice A n c, .int IntKind.i64 (n : Int), .pointer (some { block := gb0, off := 3 }), txt (oP o), .int IntKind.i64 (kp : Int), .int IntKind.i64 ((n : Int) + (kp : Int)), .pointer (some { block := gb0, off := 4 }), txt (oV o), .int IntKind.i64 (kv : Int), .int IntKind.i64 ((n : Int) + (kp : Int) + (kv : Int)), .bool false, .bool false, .agg #[Value.int IntKind.i64 (pC r), Value.int IntKind.i64 (pQ r), Value.int IntKind.i64 (pE r), txt (pV r), Value.int IntKind.i64 (pR r), Value.slice An (pN r).length cn], .int IntKind.i64 (longR r), .bool (decide (4000 < longR r)), .bool (decide (4000 < longR r)), undef, .slice (some { block := W1.heap.size, off := 0 }) 0 0, .slice A n c, .slice Ao n co, .pointer (some { block := gb1, off := 0 }), .int IntKind.i64 (pC r), .pointer (some { block := gb1, off := 1 }), .int IntKind.i64 (pQ r), .pointer (some { block := gb1, off := 2 }), .int IntKind.i64 (pE r), .pointer (some { block := gb1, off := 3 }), txt (pV r), .pointer (some { block := gb0, off := 5 }), .int IntKind.i64 (oR o), .pointer (some { block := gb1, off := 5 }), .slice An (pN r).length cn, .agg #[Value.int IntKind.i64 (pC r), Value.int IntKind.i64 (pQ r), Value.int IntKind.i64 (pE r), txt (pV r), Value.int IntKind.i64 (oR o), Value.slice An (pN r).length cn], x 0, x 1, x 2, x 3, x 4, x 5, x 6, x 7, x 8, x 9, x 10, x 11, x 12, x 13, x 14, x 15, x 16, x 17, x 18, x 19, x 20, x 21, undef, undef, undef, undef, undef, undef, undef, undef, undef, undef, undef, undef, undef, undef, undef, undef, undef, undef, undef, undef, undef, undef, undef, undef, undef, undef, undef, undef, undef, undef], []⟩) (fun jj => ([eqV (.slice Ao n co), eqV (.agg (orc o).toArray), ((fun v w => Rd w.heap.size w v (l ++ encO o))), eqV (txt (l ++ encO o)), eqV (.slice A n c), eqV (.agg (orc o).toArray), (eqV (.agg (orc o).toArray)), ((fun v w => Rd w.heap.size w v (l ++ encO o))), eqV (txt (l ++ encO o)), eqV (.bool true), eqV (.bool true), eqV (.slice Ao n co), eqV (.agg (rpc r (.slice An (pN r).length cn)).toArray), ((fun v w => Rd w.heap.size w v (l ++ encR r))), eqV (txt (l ++ encR r)), eqV (.slice A n c), eqV (.agg (rpc r (.slice An (pN r).length cn)).toArray), (eqV (.agg (rpc r (.slice An (pN r).length cn)).toArray)), ((fun v w => Rd w.heap.size w v (l ++ encR r))), eqV (txt (l ++ encR r)), eqV (.bool true), eqV (.bool true), eqV (.bool true)] : List (Value → World → Prop)).getD jj (fun _ _ => True)) rfl ⟨fun kk => [_, _, _, _, _, _, _, _, _, _, _, _, _, _, _, _, _, _, _, _, _, _, _].getD kk undef, rfl⟩ (by kernel_rfl) (by kernel_rfl) ?steps ?fin
  case steps =>
    refine StepsAt.val 0 (.slice Ao n co) rfl (fun _ _ => rfl) rfl rfl (fun x wx hb hd => ?_) ?_
    · first | (go_simp; done) | (go_simp; rfl)
    refine StepsAt.val 1 (.agg (orc o).toArray) rfl (fun _ _ => rfl) rfl rfl (fun x wx hb hd => ?_) ?_
    · have d0 := (ZX0.out.below hb ZX0.out.lt).at_ 0 _ rfl
      have d1 := (ZX0.out.below hb ZX0.out.lt).at_ 1 _ rfl
      have d2 := (ZX0.out.below hb ZX0.out.lt).at_ 2 _ rfl
      have d3 := (ZX0.out.below hb ZX0.out.lt).at_ 3 _ rfl
      have d4 := (ZX0.out.below hb ZX0.out.lt).at_ 4 _ rfl
      have d5 := (ZX0.out.below hb ZX0.out.lt).at_ 5 _ rfl
      have d6 := (ZX0.out.below hb ZX0.out.lt).at_ 6 _ rfl
      have d7 := (ZX0.out.below hb ZX0.out.lt).at_ 7 _ rfl
      first | (go_simp; done) | (go_simp; rfl)
    refine StepsAt.cons 2 (fun _ _ _ h hb => (h.below hb).more hb.size) (fun _ _ => rfl) rfl rfl (fun x wx hb hd K hK => ?_) ?_
    · have h0 : Hid (x 0 = .slice Ao n co) := hd 0 (by kernel_rfl)
      have h1 : Hid (x 1 = .agg (orc o).toArray) := hd 1 (by kernel_rfl)
      go_simp
      refine calls_args (args2 := #[.slice Ao n co, .agg (orc o).toArray]) (by rw [h0.out, h1.out]) ?_
      refine (orPut_any (.slice Ao n co) l o _ ((ZRO.out.below hb).more hb.size) FO.out (by have h1 := HLL.out; omega)).mono ?_
      rintro e w99 ⟨v99, rfl, hown, hb99⟩
      exact hK.out _ _ hb99 hown.rd
    refine StepsAt.val 3 (txt (l ++ encO o)) rfl (fun _ _ => rfl) rfl rfl (fun x wx hb hd => ?_) ?_
    · have h2 : Rd wx.heap.size wx (x 2) (l ++ encO o) := hd 2 (by kernel_rfl)
      obtain ⟨A9, c9, e9, -, -⟩ := h2.shape
      rw [e9] at h2 ⊢
      have cc := run_string_rd 22 9 5 Try.underlying22 Try.underlying5 Try.underlying9 h2
      obtain ⟨k9, hk9⟩ : ∃ q, (l ++ encO o).length = q := ⟨_, rfl⟩
      rw [hk9] at cc ⊢
      first | (go_simp; done) | (go_simp; rfl)
    refine StepsAt.val 4 (.slice A n c) rfl (fun _ _ => rfl) rfl rfl (fun x wx hb hd => ?_) ?_
    · first | (go_simp; done) | (go_simp; rfl)
    refine StepsAt.val 5 (.agg (orc o).toArray) rfl (fun _ _ => rfl) rfl rfl (fun x wx hb hd => ?_) ?_
    · have d0 := (ZX0.out.below hb ZX0.out.lt).at_ 0 _ rfl
      have d1 := (ZX0.out.below hb ZX0.out.lt).at_ 1 _ rfl
      have d2 := (ZX0.out.below hb ZX0.out.lt).at_ 2 _ rfl
      have d3 := (ZX0.out.below hb ZX0.out.lt).at_ 3 _ rfl
      have d4 := (ZX0.out.below hb ZX0.out.lt).at_ 4 _ rfl
      have d5 := (ZX0.out.below hb ZX0.out.lt).at_ 5 _ rfl
      have d6 := (ZX0.out.below hb ZX0.out.lt).at_ 6 _ rfl
      have d7 := (ZX0.out.below hb ZX0.out.lt).at_ 7 _ rfl
      first | (go_simp; done) | (go_simp; rfl)
    refine StepsAt.cons 6 (fun _ _ _ h hb => h) (fun _ _ => rfl) rfl rfl (fun x wx hb hd K hK => ?_) ?_
    · have h5 : Hid (x 5 = .agg (orc o).toArray) := hd 5 (by kernel_rfl)
      go_simp
      refine calls_args (args2 := #[.agg (orc o).toArray]) (by rw [h5.out]) ?_
      refine (oneO_any o _).mono ?_
      rintro e w99 ⟨rfl, hb99⟩
      exact hK.out _ _ hb99 rfl
    refine StepsAt.cons 7 (fun _ _ _ h hb => (h.below hb).more hb.size) (fun _ _ => rfl) rfl rfl (fun x wx hb hd K hK => ?_) ?_
    · have h4 : Hid (x 4 = .slice A n c) := hd 4 (by kernel_rfl)
      have h6 : Hid (x 6 = .agg (orc o).toArray) := hd 6 (by kernel_rfl)
      go_simp
      refine calls_args (args2 := #[.slice A n c, .agg (orc o).toArray]) (by rw [h4.out, h6.out]) ?_
      refine (rfPutO_any (.slice A n c) l o _ ((ZHR.out.below hb).more hb.size) FO.out (by have h1 := HLL.out; omega)).mono ?_
      rintro e w99 ⟨v99, rfl, hown, hb99⟩
      exact hK.out _ _ hb99 hown.rd
    refine StepsAt.val 8 (txt (l ++ encO o)) rfl (fun _ _ => rfl) rfl rfl (fun x wx hb hd => ?_) ?_
    · have h7 : Rd wx.heap.size wx (x 7) (l ++ encO o) := hd 7 (by kernel_rfl)
      obtain ⟨A9, c9, e9, -, -⟩ := h7.shape
      rw [e9] at h7 ⊢
      have cc := run_string_rd 22 9 5 Try.underlying22 Try.underlying5 Try.underlying9 h7
      obtain ⟨k9, hk9⟩ : ∃ q, (l ++ encO o).length = q := ⟨_, rfl⟩
      rw [hk9] at cc ⊢
      first | (go_simp; done) | (go_simp; rfl)
    refine StepsAt.val 9 (.bool true) rfl (fun _ _ => rfl) rfl rfl (fun x wx hb hd => ?_) ?_
    · have h3 : x 3 = txt (l ++ encO o) := hd 3 (by kernel_rfl)
      have h8 : x 8 = txt (l ++ encO o) := hd 8 (by kernel_rfl)
      rw [h3, h8]
      first | (go_simp; done) | (go_simp; rfl) | (go_simp; simp)
    refine StepsAt.val 10 (.bool true) rfl (fun _ _ => rfl) rfl rfl (fun x wx hb hd => ?_) ?_
    · have h9 : x 9 = .bool true := hd 9 (by kernel_rfl)
      rw [h9]
      first | (go_simp; done) | (go_simp; rfl)
    refine StepsAt.valG 11 (.slice Ao n co) rfl (fun _ _ => rfl) rfl (fun x wx hd => ?_) (fun x wx hb hd => ?_) ?_
    · have hG : x 10 = .bool true := hd 10 (by kernel_rfl)
      simp [Region.wanted, yielded, hG]
    · first | (go_simp; done) | (go_simp; rfl)
    refine StepsAt.valG 12 (.agg (rpc r (.slice An (pN r).length cn)).toArray) rfl (fun _ _ => rfl) rfl (fun x wx hd => ?_) (fun x wx hb hd => ?_) ?_
    · have hG : x 10 = .bool true := hd 10 (by kernel_rfl)
      simp [Region.wanted, yielded, hG]
    · have d0 := (ZX1.out.below hb ZX1.out.lt).at_ 0 _ rfl
      have d1 := (ZX1.out.below hb ZX1.out.lt).at_ 1 _ rfl
      have d2 := (ZX1.out.below hb ZX1.out.lt).at_ 2 _ rfl
      have d3 := (ZX1.out.below hb ZX1.out.lt).at_ 3 _ rfl
      have d4 := (ZX1.out.below hb ZX1.out.lt).at_ 4 _ rfl
      have d5 := (ZX1.out.below hb ZX1.out.lt).at_ 5 _ rfl
      first | (go_simp; done) | (go_simp; rfl)
    refine StepsAt.consG 13 (fun _ _ _ h hb => (h.below hb).more hb.size) (fun _ _ => rfl) rfl (fun x wx hd => ?_) (fun x wx hb hd K hK => ?_) ?_
    · have hG : x 10 = .bool true := hd 10 (by kernel_rfl)
      simp [Region.wanted, yielded, hG]
    · have h11 : Hid (x 11 = .slice Ao n co) := hd 11 (by kernel_rfl)
      have h12 : Hid (x 12 = .agg (rpc r (.slice An (pN r).length cn)).toArray) := hd 12 (by kernel_rfl)
      go_simp
      refine calls_args (args2 := #[.slice Ao n co, .agg (rpc r (.slice An (pN r).length cn)).toArray]) (by rw [h11.out, h12.out]) ?_
      refine (orPutR_any (.slice Ao n co) l r (.slice An (pN r).length cn) _ ((ZRO.out.below hb).more hb.size) ((ZHS.out.below hb).more hb.size) FR.out (by have h1 := HLL.out; have h2 := HLS.out; have h3 := encs_sum (pN r); omega) HCN.out).mono ?_
      rintro e w99 ⟨v99, rfl, hown, hb99⟩
      exact hK.out _ _ hb99 hown.rd
    refine StepsAt.valG 14 (txt (l ++ encR r)) rfl (fun _ _ => rfl) rfl (fun x wx hd => ?_) (fun x wx hb hd => ?_) ?_
    · have hG : x 10 = .bool true := hd 10 (by kernel_rfl)
      simp [Region.wanted, yielded, hG]
    · have h13 : Rd wx.heap.size wx (x 13) (l ++ encR r) := hd 13 (by kernel_rfl)
      obtain ⟨A9, c9, e9, -, -⟩ := h13.shape
      rw [e9] at h13 ⊢
      have cc := run_string_rd 22 9 5 Try.underlying22 Try.underlying5 Try.underlying9 h13
      obtain ⟨k9, hk9⟩ : ∃ q, (l ++ encR r).length = q := ⟨_, rfl⟩
      rw [hk9] at cc ⊢
      first | (go_simp; done) | (go_simp; rfl)
    refine StepsAt.valG 15 (.slice A n c) rfl (fun _ _ => rfl) rfl (fun x wx hd => ?_) (fun x wx hb hd => ?_) ?_
    · have hG : x 10 = .bool true := hd 10 (by kernel_rfl)
      simp [Region.wanted, yielded, hG]
    · first | (go_simp; done) | (go_simp; rfl)
    refine StepsAt.valG 16 (.agg (rpc r (.slice An (pN r).length cn)).toArray) rfl (fun _ _ => rfl) rfl (fun x wx hd => ?_) (fun x wx hb hd => ?_) ?_
    · have hG : x 10 = .bool true := hd 10 (by kernel_rfl)
      simp [Region.wanted, yielded, hG]
    · have d0 := (ZX1.out.below hb ZX1.out.lt).at_ 0 _ rfl
      have d1 := (ZX1.out.below hb ZX1.out.lt).at_ 1 _ rfl
      have d2 := (ZX1.out.below hb ZX1.out.lt).at_ 2 _ rfl
      have d3 := (ZX1.out.below hb ZX1.out.lt).at_ 3 _ rfl
      have d4 := (ZX1.out.below hb ZX1.out.lt).at_ 4 _ rfl
      have d5 := (ZX1.out.below hb ZX1.out.lt).at_ 5 _ rfl
      first | (go_simp; done) | (go_simp; rfl)
    refine StepsAt.consG 17 (fun _ _ _ h hb => h) (fun _ _ => rfl) rfl (fun x wx hd => ?_) (fun x wx hb hd K hK => ?_) ?_
    · have hG : x 10 = .bool true := hd 10 (by kernel_rfl)
      simp [Region.wanted, yielded, hG]
    · have h16 : Hid (x 16 = .agg (rpc r (.slice An (pN r).length cn)).toArray) := hd 16 (by kernel_rfl)
      go_simp
      refine calls_args (args2 := #[.agg (rpc r (.slice An (pN r).length cn)).toArray]) (by rw [h16.out]) ?_
      refine (toldO_any r An _ cn _).mono ?_
      rintro e w99 ⟨rfl, hb99⟩
      exact hK.out _ _ hb99 rfl
    refine StepsAt.consG 18 (fun _ _ _ h hb => (h.below hb).more hb.size) (fun _ _ => rfl) rfl (fun x wx hd => ?_) (fun x wx hb hd K hK => ?_) ?_
    · have hG : x 10 = .bool true := hd 10 (by kernel_rfl)
      simp [Region.wanted, yielded, hG]
    · have h15 : Hid (x 15 = .slice A n c) := hd 15 (by kernel_rfl)
      have h17 : Hid (x 17 = .agg (rpc r (.slice An (pN r).length cn)).toArray) := hd 17 (by kernel_rfl)
      go_simp
      refine calls_args (args2 := #[.slice A n c, .agg (rpc r (.slice An (pN r).length cn)).toArray]) (by rw [h15.out, h17.out]) ?_
      refine (rfPutR_any (.slice A n c) l r (.slice An (pN r).length cn) _ ((ZHR.out.below hb).more hb.size) ((ZHS.out.below hb).more hb.size) FR.out (by have h1 := HLL.out; have h2 := HLS.out; have h3 := encs_sum (pN r); omega) HCN.out).mono ?_
      rintro e w99 ⟨v99, rfl, hown, hb99⟩
      exact hK.out _ _ hb99 hown.rd
    refine StepsAt.valG 19 (txt (l ++ encR r)) rfl (fun _ _ => rfl) rfl (fun x wx hd => ?_) (fun x wx hb hd => ?_) ?_
    · have hG : x 10 = .bool true := hd 10 (by kernel_rfl)
      simp [Region.wanted, yielded, hG]
    · have h18 : Rd wx.heap.size wx (x 18) (l ++ encR r) := hd 18 (by kernel_rfl)
      obtain ⟨A9, c9, e9, -, -⟩ := h18.shape
      rw [e9] at h18 ⊢
      have cc := run_string_rd 22 9 5 Try.underlying22 Try.underlying5 Try.underlying9 h18
      obtain ⟨k9, hk9⟩ : ∃ q, (l ++ encR r).length = q := ⟨_, rfl⟩
      rw [hk9] at cc ⊢
      first | (go_simp; done) | (go_simp; rfl)
    refine StepsAt.valG 20 (.bool true) rfl (fun _ _ => rfl) rfl (fun x wx hd => ?_) (fun x wx hb hd => ?_) ?_
    · have hG : x 10 = .bool true := hd 10 (by kernel_rfl)
      simp [Region.wanted, yielded, hG]
    · have h14 : x 14 = txt (l ++ encR r) := hd 14 (by kernel_rfl)
      have h19 : x 19 = txt (l ++ encR r) := hd 19 (by kernel_rfl)
      rw [h14, h19]
      first | (go_simp; done) | (go_simp; rfl) | (go_simp; simp)
    refine StepsAt.val 21 (.bool true) rfl (fun _ _ => rfl) rfl rfl (fun x wx hb hd => ?_) ?_
    · have h10 : x 10 = .bool true := hd 10 (by kernel_rfl)
      have h20 : x 20 = .bool true := hd 20 (by kernel_rfl)
      rw [h10, h20]
      first | (go_simp; done) | (go_simp; rfl)
    refine StepsAt.val 22 (.bool true) rfl (fun _ _ => rfl) rfl rfl (fun x wx hb hd => ?_) ?_
    · have h21 : x 21 = .bool true := hd 21 (by kernel_rfl)
      rw [h21]
      first | (go_simp; done) | (go_simp; rfl)
    exact StepsAt.done
  case fin =>
    intro x wx hb hd
    have hx0 : x 0 = .slice Ao n co := hd 0 (by omega)
    have hx1 : x 1 = .agg (orc o).toArray := hd 1 (by omega)
    have hx3 : x 3 = txt (l ++ encO o) := hd 3 (by omega)
    have hx4 : x 4 = .slice A n c := hd 4 (by omega)
    have hx5 : x 5 = .agg (orc o).toArray := hd 5 (by omega)
    have hx6 : x 6 = .agg (orc o).toArray := hd 6 (by omega)
    have hx8 : x 8 = txt (l ++ encO o) := hd 8 (by omega)
    have hx9 : x 9 = .bool true := hd 9 (by omega)
    have hx10 : x 10 = .bool true := hd 10 (by omega)
    have hx11 : x 11 = .slice Ao n co := hd 11 (by omega)
    have hx12 : x 12 = .agg (rpc r (.slice An (pN r).length cn)).toArray := hd 12 (by omega)
    have hx14 : x 14 = txt (l ++ encR r) := hd 14 (by omega)
    have hx15 : x 15 = .slice A n c := hd 15 (by omega)
    have hx16 : x 16 = .agg (rpc r (.slice An (pN r).length cn)).toArray := hd 16 (by omega)
    have hx17 : x 17 = .agg (rpc r (.slice An (pN r).length cn)).toArray := hd 17 (by omega)
    have hx19 : x 19 = txt (l ++ encR r) := hd 19 (by omega)
    have hx20 : x 20 = .bool true := hd 20 (by omega)
    have hx21 : x 21 = .bool true := hd 21 (by omega)
    have hx22 : x 22 = .bool true := hd 22 (by omega)
    refine AnyTill.any (S := fun _ => True) (m := 23) _ _ _ _ ?_
    refine AnyTill.done (by kernel_rfl) ?_
    refine NoPanic.normal ?_
    try dsimp only
    rw [hx0, hx1, hx3, hx4, hx5, hx6, hx8, hx9, hx10, hx11, hx12, hx14, hx15, hx16, hx17, hx19, hx20, hx21, hx22]
    have EF5 := Lib.hid hb
    clear hx0 hx1 hx3 hx4 hx5 hx6 hx8 hx9 hx10 hx11 hx12 hx14 hx15 hx16 hx17 hx19 hx20 hx21 hx22 hd hb
    have P4_w := Lib.hid (P3_w.out.trans (EF5.out.mono P3_w.out.size))
    clear P3_w
    have P4_y0 := Lib.hid (P3_y0.out.trans (EF5.out.mono P3_y0.out.size))
    clear P3_y0
    have P4_y1 := Lib.hid (P3_y1.out.trans (EF5.out.mono P3_y1.out.size))
    clear P3_y1
    have P4_W1 := Lib.hid (P3_W1.out.trans (EF5.out.mono P3_W1.out.size))
    clear P3_W1
    have P4_W2 := Lib.hid (E3.out.trans (EF5.out.mono E3.out.size))
    obtain ⟨vx2, hvx⟩ : ∃ q, x 2 = q := ⟨_, rfl⟩
    rw [hvx]
    clear hvx
    obtain ⟨vx7, hvx⟩ : ∃ q, x 7 = q := ⟨_, rfl⟩
    rw [hvx]
    clear hvx
    obtain ⟨vx13, hvx⟩ : ∃ q, x 13 = q := ⟨_, rfl⟩
    rw [hvx]
    clear hvx
    obtain ⟨vx18, hvx⟩ : ∃ q, x 18 = q := ⟨_, rfl⟩
    rw [hvx]
    clear hvx
    clear x
    go_wp2
    have YX0 := Lib.hid (X0.out.below P4_y0.out X0.out.lt)
    have YX1 := Lib.hid (X1.out.below P4_y1.out X1.out.lt)
    have YX8 := Lib.hid (X8.out.below EF5.out X8.out.lt)
    have YRO := Lib.hid ((RO.out.below P4_W2.out).more P4_W2.out.size)
    have YHR := Lib.hid ((HR.out.below P4_w.out).more P4_w.out.size)
    have YHS := Lib.hid ((HS.out.below P4_w.out).more P4_w.out.size)
    refine wp_region_rely2 31 0 (fun x => ⟨#[.slice A n c, .agg (orc o).toArray, .agg (rpc r (Value.slice An (pN r).length cn)).toArray, undef, .pointer (some { block := gb0, off := 0 }), .pointer (some { block := gb1, off := 0 }), x 30, .slice Ao n co, .pointer (some { block := vg3, off := 0 }), .bool true, .slice A n c, .int IntKind.i64 (n : Int), .pointer (some { block := gb0, off := 3 }), txt (oP o), .int IntKind.i64 (kp : Int), .int IntKind.i64 ((n : Int) + (kp : Int)), .pointer (some { block := gb0, off := 4 }), txt (oV o), .int IntKind.i64 (kv : Int), .int IntKind.i64 ((n : Int) + (kp : Int) + (kv : Int)), .bool false, .bool false, .agg #[Value.int IntKind.i64 (pC r), Value.int IntKind.i64 (pQ r), Value.int IntKind.i64 (pE r), txt (pV r), Value.int IntKind.i64 (pR r), Value.slice An (pN r).length cn], .int IntKind.i64 (longR r), .bool (decide (4000 < longR r)), .bool (decide (4000 < longR r)), undef, .slice (some { block := W1.heap.size, off := 0 }) 0 0, .slice A n c, .slice Ao n co, .pointer (some { block := gb1, off := 0 }), .int IntKind.i64 (pC r), .pointer (some { block := gb1, off := 1 }), .int IntKind.i64 (pQ r), .pointer (some { block := gb1, off := 2 }), .int IntKind.i64 (pE r), .pointer (some { block := gb1, off := 3 }), txt (pV r), .pointer (some { block := gb0, off := 5 }), .int IntKind.i64 (oR o), .pointer (some { block := gb1, off := 5 }), .slice An (pN r).length cn, .agg #[Value.int IntKind.i64 (pC r), Value.int IntKind.i64 (pQ r), Value.int IntKind.i64 (pE r), txt (pV r), Value.int IntKind.i64 (oR o), Value.slice An (pN r).length cn], .slice Ao n co, .agg (orc o).toArray, vx2, txt (l ++ encO o), .slice A n c, .agg (orc o).toArray, .agg (orc o).toArray, vx7, txt (l ++ encO o), .bool true, .bool true, .slice Ao n co, .agg (rpc r (Value.slice An (pN r).length cn)).toArray, vx13, txt (l ++ encR r), .slice A n c, .agg (rpc r (Value.slice An (pN r).length cn)).toArray, .agg (rpc r (Value.slice An (pN r).length cn)).toArray, vx18, txt (l ++ encR r), .bool true, .bool true, x 0, x 1, x 2, x 3, x 4, x 5, x 6, x 7, x 8, x 9, x 10, x 11, x 12, x 13, x 14, x 15, x 16, x 17, x 18, x 19, x 20, x 21, x 22, x 23, x 24, x 25, x 26, x 27, x 28, x 29], []⟩) (fun jj => ([(eqV (.bool true)), eqV (.bool true), eqV (.bool true), eqV (.bool true), eqV (.bool true), eqV (.agg (orc o).toArray), (eqV (.bool MB)), eqV (.agg (orc o).toArray), (eqV (.agg (orc o).toArray)), (eqV (.bool MB)), eqV (.bool true), eqV (.bool true), eqV (.bool true), eqV (.agg (rpc r (.slice An (pN r).length cn)).toArray), eqV (.agg (rpc (pC r, pQ r, pE r, pV r, oR o, pN r) (.slice An (pN r).length cn)).toArray), (eqV (.bool SB)), eqV (.agg (rpc r (.slice An (pN r).length cn)).toArray), (eqV (.agg (rpc r (.slice An (pN r).length cn)).toArray)), eqV (.agg (rpc (pC r, pQ r, pE r, pV r, oR o, pN r) (.slice An (pN r).length cn)).toArray), (eqV (.agg (rpc (pC r, pQ r, pE r, pV r, oR o, pN r) (.slice An (pN r).length cn)).toArray)), (eqV (.bool SB)), eqV (.bool true), eqV (.bool true), eqV (.bool true), eqV (.slice Ao n co), eqV (txt l), eqV (.slice A n c), eqV (txt l), eqV (.bool true), eqV (.bool true), eqV (.bool true)] : List (Value → World → Prop)).getD jj (fun _ _ => True)) rfl ⟨fun kk => [_, _, _, _, _, _, _, _, _, _, _, _, _, _, _, _, _, _, _, _, _, _, _, _, _, _, _, _, _, _, _].getD kk undef, rfl⟩ (by kernel_rfl) (by kernel_rfl) ?steps ?fin
    case steps =>
      refine StepsAt.cons 0 (fun _ _ _ h hb => h) (fun _ _ => rfl) rfl rfl (fun x wy hb hd K hK => ?_) ?_
      · go_simp
        refine (alive12 _).mono ?_
        rintro e w99 ⟨rfl, hb99⟩
        exact hK.out _ _ hb99 rfl
      refine StepsAt.val 1 (.bool true) rfl (fun _ _ => rfl) rfl rfl (fun x wy hb hd => ?_) ?_
      · have h0 : x 0 = .bool true := hd 0 (by kernel_rfl)
        rw [h0]
        first | (go_simp; done) | (go_simp; rfl)
      refine StepsAt.valG 2 (.bool true) rfl (fun _ _ => rfl) rfl (fun x wy hd => ?_) (fun x wy hb hd => ?_) ?_
      · have hG : x 1 = .bool true := hd 1 (by kernel_rfl)
        simp [Region.wanted, yielded, hG]
      · first | (go_simp; done) | (go_simp; rfl)
      refine StepsAt.val 3 (.bool true) rfl (fun _ _ => rfl) rfl rfl (fun x wy hb hd => ?_) ?_
      · have h1 : x 1 = .bool true := hd 1 (by kernel_rfl)
        have h2 : x 2 = .bool true := hd 2 (by kernel_rfl)
        rw [h1, h2]
        first | (go_simp; done) | (go_simp; rfl)
      refine StepsAt.val 4 (.bool true) rfl (fun _ _ => rfl) rfl rfl (fun x wy hb hd => ?_) ?_
      · have h3 : x 3 = .bool true := hd 3 (by kernel_rfl)
        rw [h3]
        first | (go_simp; done) | (go_simp; rfl)
      refine StepsAt.valG 5 (.agg (orc o).toArray) rfl (fun _ _ => rfl) rfl (fun x wy hd => ?_) (fun x wy hb hd => ?_) ?_
      · have hG : x 4 = .bool true := hd 4 (by kernel_rfl)
        simp [Region.wanted, yielded, hG]
      · have d0 := (YX0.out.below hb YX0.out.lt).at_ 0 _ rfl
        have d1 := (YX0.out.below hb YX0.out.lt).at_ 1 _ rfl
        have d2 := (YX0.out.below hb YX0.out.lt).at_ 2 _ rfl
        have d3 := (YX0.out.below hb YX0.out.lt).at_ 3 _ rfl
        have d4 := (YX0.out.below hb YX0.out.lt).at_ 4 _ rfl
        have d5 := (YX0.out.below hb YX0.out.lt).at_ 5 _ rfl
        have d6 := (YX0.out.below hb YX0.out.lt).at_ 6 _ rfl
        have d7 := (YX0.out.below hb YX0.out.lt).at_ 7 _ rfl
        first | (go_simp; done) | (go_simp; rfl)
      refine StepsAt.consG 6 (fun _ _ _ h hb => h) (fun _ _ => rfl) rfl (fun x wy hd => ?_) (fun x wy hb hd K hK => ?_) ?_
      · have hG : x 4 = .bool true := hd 4 (by kernel_rfl)
        simp [Region.wanted, yielded, hG]
      · have h5 : Hid (x 5 = .agg (orc o).toArray) := hd 5 (by kernel_rfl)
        go_simp
        refine calls_args (args2 := #[.agg (orc o).toArray]) (by rw [h5.out]) ?_
        refine (wrMay o MB HMB.out _).mono ?_
        rintro e w99 ⟨rfl, hb99⟩
        exact hK.out _ _ hb99 rfl
      refine StepsAt.valG 7 (.agg (orc o).toArray) rfl (fun _ _ => rfl) rfl (fun x wy hd => ?_) (fun x wy hb hd => ?_) ?_
      · have hG : x 4 = .bool true := hd 4 (by kernel_rfl)
        simp [Region.wanted, yielded, hG]
      · have d0 := (YX0.out.below hb YX0.out.lt).at_ 0 _ rfl
        have d1 := (YX0.out.below hb YX0.out.lt).at_ 1 _ rfl
        have d2 := (YX0.out.below hb YX0.out.lt).at_ 2 _ rfl
        have d3 := (YX0.out.below hb YX0.out.lt).at_ 3 _ rfl
        have d4 := (YX0.out.below hb YX0.out.lt).at_ 4 _ rfl
        have d5 := (YX0.out.below hb YX0.out.lt).at_ 5 _ rfl
        have d6 := (YX0.out.below hb YX0.out.lt).at_ 6 _ rfl
        have d7 := (YX0.out.below hb YX0.out.lt).at_ 7 _ rfl
        first | (go_simp; done) | (go_simp; rfl)
      refine StepsAt.consG 8 (fun _ _ _ h hb => h) (fun _ _ => rfl) rfl (fun x wy hd => ?_) (fun x wy hb hd K hK => ?_) ?_
      · have hG : x 4 = .bool true := hd 4 (by kernel_rfl)
        simp [Region.wanted, yielded, hG]
      · have h7 : Hid (x 7 = .agg (orc o).toArray) := hd 7 (by kernel_rfl)
        go_simp
        refine calls_args (args2 := #[.agg (orc o).toArray]) (by rw [h7.out]) ?_
        refine (oneO_any o _).mono ?_
        rintro e w99 ⟨rfl, hb99⟩
        exact hK.out _ _ hb99 rfl
      refine StepsAt.consG 9 (fun _ _ _ h hb => h) (fun _ _ => rfl) rfl (fun x wy hd => ?_) (fun x wy hb hd K hK => ?_) ?_
      · have hG : x 4 = .bool true := hd 4 (by kernel_rfl)
        simp [Region.wanted, yielded, hG]
      · have h8 : Hid (x 8 = .agg (orc o).toArray) := hd 8 (by kernel_rfl)
        go_simp
        refine calls_args (args2 := #[.agg (orc o).toArray]) (by rw [h8.out]) ?_
        refine (wrRfMay o MB HMB.out _).mono ?_
        rintro e w99 ⟨rfl, hb99⟩
        exact hK.out _ _ hb99 rfl
      refine StepsAt.valG 10 (.bool true) rfl (fun _ _ => rfl) rfl (fun x wy hd => ?_) (fun x wy hb hd => ?_) ?_
      · have hG : x 4 = .bool true := hd 4 (by kernel_rfl)
        simp [Region.wanted, yielded, hG]
      · have h6 : x 6 = .bool MB := hd 6 (by kernel_rfl)
        have h9 : x 9 = .bool MB := hd 9 (by kernel_rfl)
        rw [h6, h9]
        first | (go_simp; done) | (go_simp; rfl) | (go_simp; simp)
      refine StepsAt.val 11 (.bool true) rfl (fun _ _ => rfl) rfl rfl (fun x wy hb hd => ?_) ?_
      · have h4 : x 4 = .bool true := hd 4 (by kernel_rfl)
        have h10 : x 10 = .bool true := hd 10 (by kernel_rfl)
        rw [h4, h10]
        first | (go_simp; done) | (go_simp; rfl)
      refine StepsAt.val 12 (.bool true) rfl (fun _ _ => rfl) rfl rfl (fun x wy hb hd => ?_) ?_
      · have h11 : x 11 = .bool true := hd 11 (by kernel_rfl)
        rw [h11]
        first | (go_simp; done) | (go_simp; rfl)
      refine StepsAt.valG 13 (.agg (rpc r (.slice An (pN r).length cn)).toArray) rfl (fun _ _ => rfl) rfl (fun x wy hd => ?_) (fun x wy hb hd => ?_) ?_
      · have hG : x 12 = .bool true := hd 12 (by kernel_rfl)
        simp [Region.wanted, yielded, hG]
      · have d0 := (YX1.out.below hb YX1.out.lt).at_ 0 _ rfl
        have d1 := (YX1.out.below hb YX1.out.lt).at_ 1 _ rfl
        have d2 := (YX1.out.below hb YX1.out.lt).at_ 2 _ rfl
        have d3 := (YX1.out.below hb YX1.out.lt).at_ 3 _ rfl
        have d4 := (YX1.out.below hb YX1.out.lt).at_ 4 _ rfl
        have d5 := (YX1.out.below hb YX1.out.lt).at_ 5 _ rfl
        first | (go_simp; done) | (go_simp; rfl)
      refine StepsAt.valG 14 (.agg (rpc (pC r, pQ r, pE r, pV r, oR o, pN r) (.slice An (pN r).length cn)).toArray) rfl (fun _ _ => rfl) rfl (fun x wy hd => ?_) (fun x wy hb hd => ?_) ?_
      · have hG : x 12 = .bool true := hd 12 (by kernel_rfl)
        simp [Region.wanted, yielded, hG]
      · have d0 := (YX8.out.below hb YX8.out.lt).at_ 0 _ rfl
        have d1 := (YX8.out.below hb YX8.out.lt).at_ 1 _ rfl
        have d2 := (YX8.out.below hb YX8.out.lt).at_ 2 _ rfl
        have d3 := (YX8.out.below hb YX8.out.lt).at_ 3 _ rfl
        have d4 := (YX8.out.below hb YX8.out.lt).at_ 4 _ rfl
        have d5 := (YX8.out.below hb YX8.out.lt).at_ 5 _ rfl
        first | (go_simp; done) | (go_simp; rfl)
      refine StepsAt.consG 15 (fun _ _ _ h hb => h) (fun _ _ => rfl) rfl (fun x wy hd => ?_) (fun x wy hb hd K hK => ?_) ?_
      · have hG : x 12 = .bool true := hd 12 (by kernel_rfl)
        simp [Region.wanted, yielded, hG]
      · have h13 : Hid (x 13 = .agg (rpc r (.slice An (pN r).length cn)).toArray) := hd 13 (by kernel_rfl)
        have h14 : Hid (x 14 = .agg (rpc (pC r, pQ r, pE r, pV r, oR o, pN r) (.slice An (pN r).length cn)).toArray) := hd 14 (by kernel_rfl)
        go_simp
        refine calls_args (args2 := #[.agg (rpc r (.slice An (pN r).length cn)).toArray, .agg (rpc (pC r, pQ r, pE r, pV r, oR o, pN r) (.slice An (pN r).length cn)).toArray]) (by rw [h13.out, h14.out]) ?_
        refine (wrSame r (oR o) SB HSB.out (.slice An (pN r).length cn) (.slice An (pN r).length cn) _ ((YHS.out.below hb).more hb.size) ((YHS.out.below hb).more hb.size) HCN.out).mono ?_
        rintro e w99 ⟨rfl, hb99⟩
        exact hK.out _ _ hb99 rfl
      refine StepsAt.valG 16 (.agg (rpc r (.slice An (pN r).length cn)).toArray) rfl (fun _ _ => rfl) rfl (fun x wy hd => ?_) (fun x wy hb hd => ?_) ?_
      · have hG : x 12 = .bool true := hd 12 (by kernel_rfl)
        simp [Region.wanted, yielded, hG]
      · have d0 := (YX1.out.below hb YX1.out.lt).at_ 0 _ rfl
        have d1 := (YX1.out.below hb YX1.out.lt).at_ 1 _ rfl
        have d2 := (YX1.out.below hb YX1.out.lt).at_ 2 _ rfl
        have d3 := (YX1.out.below hb YX1.out.lt).at_ 3 _ rfl
        have d4 := (YX1.out.below hb YX1.out.lt).at_ 4 _ rfl
        have d5 := (YX1.out.below hb YX1.out.lt).at_ 5 _ rfl
        first | (go_simp; done) | (go_simp; rfl)
      refine StepsAt.consG 17 (fun _ _ _ h hb => h) (fun _ _ => rfl) rfl (fun x wy hd => ?_) (fun x wy hb hd K hK => ?_) ?_
      · have hG : x 12 = .bool true := hd 12 (by kernel_rfl)
        simp [Region.wanted, yielded, hG]
      · have h16 : Hid (x 16 = .agg (rpc r (.slice An (pN r).length cn)).toArray) := hd 16 (by kernel_rfl)
        go_simp
        refine calls_args (args2 := #[.agg (rpc r (.slice An (pN r).length cn)).toArray]) (by rw [h16.out]) ?_
        refine (toldO_any r An _ cn _).mono ?_
        rintro e w99 ⟨rfl, hb99⟩
        exact hK.out _ _ hb99 rfl
      refine StepsAt.valG 18 (.agg (rpc (pC r, pQ r, pE r, pV r, oR o, pN r) (.slice An (pN r).length cn)).toArray) rfl (fun _ _ => rfl) rfl (fun x wy hd => ?_) (fun x wy hb hd => ?_) ?_
      · have hG : x 12 = .bool true := hd 12 (by kernel_rfl)
        simp [Region.wanted, yielded, hG]
      · have d0 := (YX8.out.below hb YX8.out.lt).at_ 0 _ rfl
        have d1 := (YX8.out.below hb YX8.out.lt).at_ 1 _ rfl
        have d2 := (YX8.out.below hb YX8.out.lt).at_ 2 _ rfl
        have d3 := (YX8.out.below hb YX8.out.lt).at_ 3 _ rfl
        have d4 := (YX8.out.below hb YX8.out.lt).at_ 4 _ rfl
        have d5 := (YX8.out.below hb YX8.out.lt).at_ 5 _ rfl
        first | (go_simp; done) | (go_simp; rfl)
      refine StepsAt.consG 19 (fun _ _ _ h hb => h) (fun _ _ => rfl) rfl (fun x wy hd => ?_) (fun x wy hb hd K hK => ?_) ?_
      · have hG : x 12 = .bool true := hd 12 (by kernel_rfl)
        simp [Region.wanted, yielded, hG]
      · have h18 : Hid (x 18 = .agg (rpc (pC r, pQ r, pE r, pV r, oR o, pN r) (.slice An (pN r).length cn)).toArray) := hd 18 (by kernel_rfl)
        go_simp
        refine calls_args (args2 := #[.agg (rpc (pC r, pQ r, pE r, pV r, oR o, pN r) (.slice An (pN r).length cn)).toArray]) (by rw [h18.out]) ?_
        refine (toldO_any (pC r, pQ r, pE r, pV r, oR o, pN r) An _ cn _).mono ?_
        rintro e w99 ⟨rfl, hb99⟩
        exact hK.out _ _ hb99 rfl
      refine StepsAt.consG 20 (fun _ _ _ h hb => h) (fun _ _ => rfl) rfl (fun x wy hd => ?_) (fun x wy hb hd K hK => ?_) ?_
      · have hG : x 12 = .bool true := hd 12 (by kernel_rfl)
        simp [Region.wanted, yielded, hG]
      · have h17 : Hid (x 17 = .agg (rpc r (.slice An (pN r).length cn)).toArray) := hd 17 (by kernel_rfl)
        have h19 : Hid (x 19 = .agg (rpc (pC r, pQ r, pE r, pV r, oR o, pN r) (.slice An (pN r).length cn)).toArray) := hd 19 (by kernel_rfl)
        go_simp
        refine calls_args (args2 := #[.agg (rpc r (.slice An (pN r).length cn)).toArray, .agg (rpc (pC r, pQ r, pE r, pV r, oR o, pN r) (.slice An (pN r).length cn)).toArray]) (by rw [h17.out, h19.out]) ?_
        refine (wrRfSame r (oR o) SB HSB.out (.slice An (pN r).length cn) (.slice An (pN r).length cn) _ ((YHS.out.below hb).more hb.size) ((YHS.out.below hb).more hb.size) HCN.out).mono ?_
        rintro e w99 ⟨rfl, hb99⟩
        exact hK.out _ _ hb99 rfl
      refine StepsAt.valG 21 (.bool true) rfl (fun _ _ => rfl) rfl (fun x wy hd => ?_) (fun x wy hb hd => ?_) ?_
      · have hG : x 12 = .bool true := hd 12 (by kernel_rfl)
        simp [Region.wanted, yielded, hG]
      · have h15 : x 15 = .bool SB := hd 15 (by kernel_rfl)
        have h20 : x 20 = .bool SB := hd 20 (by kernel_rfl)
        rw [h15, h20]
        first | (go_simp; done) | (go_simp; rfl) | (go_simp; simp)
      refine StepsAt.val 22 (.bool true) rfl (fun _ _ => rfl) rfl rfl (fun x wy hb hd => ?_) ?_
      · have h12 : x 12 = .bool true := hd 12 (by kernel_rfl)
        have h21 : x 21 = .bool true := hd 21 (by kernel_rfl)
        rw [h12, h21]
        first | (go_simp; done) | (go_simp; rfl)
      refine StepsAt.val 23 (.bool true) rfl (fun _ _ => rfl) rfl rfl (fun x wy hb hd => ?_) ?_
      · have h22 : x 22 = .bool true := hd 22 (by kernel_rfl)
        rw [h22]
        first | (go_simp; done) | (go_simp; rfl)
      refine StepsAt.valG 24 (.slice Ao n co) rfl (fun _ _ => rfl) rfl (fun x wy hd => ?_) (fun x wy hb hd => ?_) ?_
      · have hG : x 23 = .bool true := hd 23 (by kernel_rfl)
        simp [Region.wanted, yielded, hG]
      · first | (go_simp; done) | (go_simp; rfl)
      refine StepsAt.valG 25 (txt l) rfl (fun _ _ => rfl) rfl (fun x wy hd => ?_) (fun x wy hb hd => ?_) ?_
      · have hG : x 23 = .bool true := hd 23 (by kernel_rfl)
        simp [Region.wanted, yielded, hG]
      · have h24 : x 24 = .slice Ao n co := hd 24 (by kernel_rfl)
        have cc := run_string_rd 22 9 5 Try.underlying22 Try.underlying5 Try.underlying9 (YRO.out.below hb)
        rw [h24]
        first | (go_simp; done) | (go_simp; rfl)
      refine StepsAt.valG 26 (.slice A n c) rfl (fun _ _ => rfl) rfl (fun x wy hd => ?_) (fun x wy hb hd => ?_) ?_
      · have hG : x 23 = .bool true := hd 23 (by kernel_rfl)
        simp [Region.wanted, yielded, hG]
      · first | (go_simp; done) | (go_simp; rfl)
      refine StepsAt.valG 27 (txt l) rfl (fun _ _ => rfl) rfl (fun x wy hd => ?_) (fun x wy hb hd => ?_) ?_
      · have hG : x 23 = .bool true := hd 23 (by kernel_rfl)
        simp [Region.wanted, yielded, hG]
      · have h26 : x 26 = .slice A n c := hd 26 (by kernel_rfl)
        have cc := run_string_rd 22 9 5 Try.underlying22 Try.underlying5 Try.underlying9 (YHR.out.below hb)
        rw [h26]
        first | (go_simp; done) | (go_simp; rfl)
      refine StepsAt.valG 28 (.bool true) rfl (fun _ _ => rfl) rfl (fun x wy hd => ?_) (fun x wy hb hd => ?_) ?_
      · have hG : x 23 = .bool true := hd 23 (by kernel_rfl)
        simp [Region.wanted, yielded, hG]
      · have h25 : x 25 = txt l := hd 25 (by kernel_rfl)
        have h27 : x 27 = txt l := hd 27 (by kernel_rfl)
        rw [h25, h27]
        first | (go_simp; done) | (go_simp; rfl) | (go_simp; simp)
      refine StepsAt.val 29 (.bool true) rfl (fun _ _ => rfl) rfl rfl (fun x wy hb hd => ?_) ?_
      · have h23 : x 23 = .bool true := hd 23 (by kernel_rfl)
        have h28 : x 28 = .bool true := hd 28 (by kernel_rfl)
        rw [h23, h28]
        first | (go_simp; done) | (go_simp; rfl)
      refine StepsAt.val 30 (.bool true) rfl (fun _ _ => rfl) rfl rfl (fun x wy hb hd => ?_) ?_
      · have h29 : x 29 = .bool true := hd 29 (by kernel_rfl)
        rw [h29]
        first | (go_simp; done) | (go_simp; rfl)
      exact StepsAt.done
    case fin =>
      intro x wy hb hd
      have hx0 : x 0 = .bool true := hd 0 (by omega)
      have hx1 : x 1 = .bool true := hd 1 (by omega)
      have hx2 : x 2 = .bool true := hd 2 (by omega)
      have hx3 : x 3 = .bool true := hd 3 (by omega)
      have hx4 : x 4 = .bool true := hd 4 (by omega)
      have hx5 : x 5 = .agg (orc o).toArray := hd 5 (by omega)
      have hx6 : x 6 = .bool MB := hd 6 (by omega)
      have hx7 : x 7 = .agg (orc o).toArray := hd 7 (by omega)
      have hx8 : x 8 = .agg (orc o).toArray := hd 8 (by omega)
      have hx9 : x 9 = .bool MB := hd 9 (by omega)
      have hx10 : x 10 = .bool true := hd 10 (by omega)
      have hx11 : x 11 = .bool true := hd 11 (by omega)
      have hx12 : x 12 = .bool true := hd 12 (by omega)
      have hx13 : x 13 = .agg (rpc r (.slice An (pN r).length cn)).toArray := hd 13 (by omega)
      have hx14 : x 14 = .agg (rpc (pC r, pQ r, pE r, pV r, oR o, pN r) (.slice An (pN r).length cn)).toArray := hd 14 (by omega)
      have hx15 : x 15 = .bool SB := hd 15 (by omega)
      have hx16 : x 16 = .agg (rpc r (.slice An (pN r).length cn)).toArray := hd 16 (by omega)
      have hx17 : x 17 = .agg (rpc r (.slice An (pN r).length cn)).toArray := hd 17 (by omega)
      have hx18 : x 18 = .agg (rpc (pC r, pQ r, pE r, pV r, oR o, pN r) (.slice An (pN r).length cn)).toArray := hd 18 (by omega)
      have hx19 : x 19 = .agg (rpc (pC r, pQ r, pE r, pV r, oR o, pN r) (.slice An (pN r).length cn)).toArray := hd 19 (by omega)
      have hx20 : x 20 = .bool SB := hd 20 (by omega)
      have hx21 : x 21 = .bool true := hd 21 (by omega)
      have hx22 : x 22 = .bool true := hd 22 (by omega)
      have hx23 : x 23 = .bool true := hd 23 (by omega)
      have hx24 : x 24 = .slice Ao n co := hd 24 (by omega)
      have hx25 : x 25 = txt l := hd 25 (by omega)
      have hx26 : x 26 = .slice A n c := hd 26 (by omega)
      have hx27 : x 27 = txt l := hd 27 (by omega)
      have hx28 : x 28 = .bool true := hd 28 (by omega)
      have hx29 : x 29 = .bool true := hd 29 (by omega)
      have hx30 : x 30 = .bool true := hd 30 (by omega)
      refine AnyTill.any (S := fun _ => True) (m := 31) _ _ _ _ ?_
      refine AnyTill.done (by kernel_rfl) ?_
      refine NoPanic.normal ?_
      try dsimp only
      rw [hx0, hx1, hx2, hx3, hx4, hx5, hx6, hx7, hx8, hx9, hx10, hx11, hx12, hx13, hx14, hx15, hx16, hx17, hx18, hx19, hx20, hx21, hx22, hx23, hx24, hx25, hx26, hx27, hx28, hx29, hx30]
      have EF6 := Lib.hid hb
      clear hx0 hx1 hx2 hx3 hx4 hx5 hx6 hx7 hx8 hx9 hx10 hx11 hx12 hx13 hx14 hx15 hx16 hx17 hx18 hx19 hx20 hx21 hx22 hx23 hx24 hx25 hx26 hx27 hx28 hx29 hx30 hd hb
      have P5_w := Lib.hid (P4_w.out.trans (EF6.out.mono P4_w.out.size))
      clear P4_w
      have P5_y0 := Lib.hid (P4_y0.out.trans (EF6.out.mono P4_y0.out.size))
      clear P4_y0
      have P5_y1 := Lib.hid (P4_y1.out.trans (EF6.out.mono P4_y1.out.size))
      clear P4_y1
      have P5_W1 := Lib.hid (P4_W1.out.trans (EF6.out.mono P4_W1.out.size))
      clear P4_W1
      have P5_W2 := Lib.hid (P4_W2.out.trans (EF6.out.mono P4_W2.out.size))
      clear P4_W2
      have P5_W3 := Lib.hid (EF5.out.trans (EF6.out.mono EF5.out.size))
      go_wp2
      go_ret
      exact ⟨rfl, P5_w.out⟩
end Go.Proofs.Ytmlpiembglmggaa
