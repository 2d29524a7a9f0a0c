/-
  The statements on orders: OrderTakes.
-/
import Derived.Test.YtmlpiembglmggaaNQ
import Derived.Test.YtmlpiembglmggaaNF
namespace Go.Proofs.Ytmlpiembglmggaa
open Go.RowKit
theorem rfSameIs (r : Rp) (nv nu : Value) (w : World) (hr : RdS w.heap.size w nv (pN r)) (hr2 : RdS w.heap.size w nu (pN r)) (hn : (pN r).length ≤ 1000000) : Calls Try.prog 19 #[.agg (rpc r nv).toArray, .agg (rpc r nu).toArray] w (One (.bool true) w) := by
  have h := rfSameR_any r (pR r) nv nu w hr hr2 hn
  rw [decide_eq_true rfl] at h
  exact h
theorem takeR_names (b : List UInt8) (p : Rp) (r : List UInt8) (e : Nat) (h : takeR b = (p, r, e)) (hl : b.length ≤ 4000) : (pN p).length ≤ 1000000 := by
  by_cases he : e = 0
  · subst he
    obtain ⟨h1, _, _⟩ := takeR_only b p r h
    have h2 : (encL (pN p)).length ≤ b.length := by
      rw [← h1]
      simp only [encR, List.length_append]
      omega
    have h3 : (pN p).length ≤ (encL (pN p)).length := by
      unfold encL
      rw [List.length_append]
      have h4 : ∀ l : List ByteArray, l.length ≤ (encs l).length := by
        intro l
        induction l with
        | nil => exact Nat.le_refl _
        | cons s t ih =>
          have h5 : (encs (s :: t)).length = (encS s).length + (encs t).length := by simp [encs]
          have h6 : 1 ≤ (encS s).length := by
            rw [encS_length]
            omega
          rw [List.length_cons]
          omega
      have := h4 (pN p)
      omega
    omega
  · have h2 : takeR b = (rp0, [], e) := by
      unfold takeR at h ⊢
      repeat' split at h
      all_goals (injection h with q1 q2; injection q2 with q2 q3; subst q3)
      all_goals simp_all
    rw [h2] at h
    injection h with q1 _
    rw [← q1]
    exact Nat.zero_le _

set_option maxRecDepth 1000000 in
set_option maxHeartbeats 16000000 in
theorem takesO_all (v : Value) (l : List UInt8) (w : World) (hr : Rd w.heap.size w v l) : Calls Try.prog 4 #[v] w (One (.bool true) w) := by
  obtain ⟨A, c, rfl, hc, hm⟩ := hr.shape
  unfold maxLen at hm
  obtain ⟨n, hn⟩ : ∃ n, l.length = n := ⟨_, rfl⟩
  have HN := Lib.hid hn
  have HR := Lib.hid hr
  rw [hn] at HR hc ⊢
  clear hr hn
  obtain ⟨dP, hu9, hd9⟩ := rowOrP
  have HUP := Lib.hid hu9
  have HDP := Lib.hid hd9
  clear hu9 hd9
  obtain ⟨dR, hu9, hd9⟩ := rowOrR
  have HUR := Lib.hid hu9
  have HDR := Lib.hid hd9
  clear hu9 hd9
  obtain ⟨dp, hu9, hd9⟩ := rowRpP
  have HUp := Lib.hid hu9
  have HDp := Lib.hid hd9
  clear hu9 hd9
  obtain ⟨dr, hu9, hd9⟩ := rowRpR
  have HUr := Lib.hid hu9
  have HDr := Lib.hid hd9
  clear hu9 hd9
  go_enter Try.func4, Try.ntmps4
  by_cases hk : (4000 : Int) < (n : Int)
  · go_wp2_with fail
    refine (alive12 w).mono ?_
    rintro e W1 ⟨rfl, hb⟩
    have E1 := Lib.hid hb
    clear hb
    go_wp2
    go_ret
    exact ⟨rfl, E1.out⟩
  have HL : Hid (l.length ≤ 4000) := by
    show _ ≤ _
    rw [HN.out]
    omega
  obtain ⟨OO, RO, EO, hTO⟩ : ∃ a b c, takeO l = (a, b, c) := ⟨_, _, _, rfl⟩
  have HTO := Lib.hid hTO
  obtain ⟨RP, RR, ER, hTR⟩ : ∃ a b c, takeR l = (a, b, c) := ⟨_, _, _, rfl⟩
  have HTR := Lib.hid hTR
  have HNM := Lib.hid (takeR_names l RP RR ER hTR HL.out)
  clear hTO hTR
  go_wp2_with fail
  refine (orTake_any (.slice A n c) l w HR.out (by have := HL.out; omega)).mono ?_
  rintro e va1 ⟨x1, rfl, hrd, hb⟩
  rw [HTO.out] at hrd ⊢
  dsimp only at hrd ⊢
  go_wp2_with (refine wpList_alloc_blk rfl 24 rfl (orc or0) zeroOrP ?_)
  intro vb1 a1 a2 a3
  obtain ⟨vg1, hg⟩ : ∃ g, va1.heap.size = g := ⟨_, rfl⟩
  have AA := Lib.hid a1
  have EB := Lib.hid (hb.trans (a3.mono hb.size))
  have A3 := Lib.hid a3
  have hbg : w.heap.size ≤ vg1 := by have := hb.size; omega
  have hgs : vg1 ≤ vb1.heap.size := by omega
  have HG := Lib.hid hg
  have RR0 := Lib.hid hrd
  rw [hg] at AA A3 RR0 ⊢
  clear a1 a2 a3 hb hg hrd
  go_wp2_with (refine wpList_store_to rfl 24 _ _ rfl vg1 (orc OO) (orc or0) 24 rfl rfl AA.out szOrP rfl (orc_all _) ?_)
  intro W1 e1 e2 e3 e4
  have X1 := Lib.hid e1
  have E1 := Lib.hid (EB.out.trans (e3.mono hbg))
  have RX1 := Lib.hid (((RR0.out.below A3.out).below e3).more (show vg1 ≤ W1.heap.size by omega))
  clear e1 e2 e3 e4 AA EB A3 hbg hgs HG RR0
  obtain ⟨A1, c1, hv1, -, -⟩ := RX1.out.shape
  subst hv1
  go_wp2_with fail
  refine (rfTakeO_any (.slice A n c) l W1 ((HR.out.below E1.out).more E1.out.size)).mono ?_
  rintro e va2 ⟨x2, rfl, hrd, hb⟩
  rw [HTO.out] at hrd ⊢
  dsimp only at hrd ⊢
  go_wp2_with (refine wpList_alloc_blk rfl 33 rfl (orc or0) zeroOrR ?_)
  intro vb2 a1 a2 a3
  obtain ⟨vg2, hg⟩ : ∃ g, va2.heap.size = g := ⟨_, rfl⟩
  have AA := Lib.hid a1
  have EB := Lib.hid (hb.trans (a3.mono hb.size))
  have A3 := Lib.hid a3
  have hbg : W1.heap.size ≤ vg2 := by have := hb.size; omega
  have hgs : vg2 ≤ vb2.heap.size := by omega
  have HG := Lib.hid hg
  have RR0 := Lib.hid hrd
  rw [hg] at AA A3 RR0 ⊢
  clear a1 a2 a3 hb hg hrd
  go_wp2_with (refine wpList_store_to rfl 33 _ _ rfl vg2 (orc OO) (orc or0) 33 rfl rfl AA.out szOrR rfl (orc_all _) ?_)
  intro W2 e1 e2 e3 e4
  have X2 := Lib.hid e1
  have E2 := Lib.hid (EB.out.trans (e3.mono hbg))
  have RX2 := Lib.hid (((RR0.out.below A3.out).below e3).more (show vg2 ≤ W2.heap.size by omega))
  clear e1 e2 e3 e4 AA EB A3 hbg hgs HG RR0
  have P2_w := Lib.hid (E1.out.trans (E2.out.mono E1.out.size))
  obtain ⟨A2, c2, hv2, -, -⟩ := RX2.out.shape
  subst hv2
  go_wp2_with fail
  refine (orTakeR_any (.slice A n c) l W2 ((HR.out.below P2_w.out).more P2_w.out.size) (by have := HL.out; omega)).mono ?_
  rintro e va3 ⟨n3, x3, rfl, hnn, hrd, hb⟩
  rw [HTR.out] at hrd hnn ⊢
  dsimp only at hrd hnn ⊢
  obtain ⟨A3n, c3n, hv3n, -, -⟩ := hnn.shape
  change n3 = .slice A3n (pN RP).length c3n at hv3n
  subst hv3n
  go_wp2_with (refine wpList_alloc_blk rfl 28 rfl (rpc rp0 (.slice none 0 0)) zeroRpP ?_)
  intro vb3 a1 a2 a3
  obtain ⟨vg3, hg⟩ : ∃ g, va3.heap.size = g := ⟨_, rfl⟩
  have AA := Lib.hid a1
  have EB := Lib.hid (hb.trans (a3.mono hb.size))
  have A3 := Lib.hid a3
  have hbg : W2.heap.size ≤ vg3 := by have := hb.size; omega
  have hgs : vg3 ≤ vb3.heap.size := by omega
  have HG := Lib.hid hg
  have RR0 := Lib.hid hrd
  have RR1 := Lib.hid hnn
  rw [hg] at AA A3 RR0 RR1 ⊢
  clear a1 a2 a3 hb hg hrd hnn
  go_wp2_with (refine wpList_store_to rfl 28 _ _ rfl vg3 (rpc RP (.slice A3n (pN RP).length c3n)) (rpc rp0 (.slice none 0 0)) 28 rfl rfl AA.out szRpP rfl (rpc_all _ _ _ _) ?_)
  intro W3 e1 e2 e3 e4
  have X3 := Lib.hid e1
  have E3 := Lib.hid (EB.out.trans (e3.mono hbg))
  have RX3 := Lib.hid (((RR0.out.below A3.out).below e3).more (show vg3 ≤ W3.heap.size by omega))
  have NX3 := Lib.hid (((RR1.out.below A3.out).below e3).more (show vg3 ≤ W3.heap.size by omega))
  clear e1 e2 e3 e4 AA EB A3 hbg hgs HG RR0 RR1
  have P3_w := Lib.hid (P2_w.out.trans (E3.out.mono P2_w.out.size))
  clear P2_w
  have P3_W1 := Lib.hid (E2.out.trans (E3.out.mono E2.out.size))
  obtain ⟨A3, c3, hv3, -, -⟩ := RX3.out.shape
  subst hv3
  go_wp2_with fail
  refine (rfTakeR_any (.slice A n c) l W3 ((HR.out.below P3_w.out).more P3_w.out.size) (by have := HL.out; omega)).mono ?_
  rintro e va4 ⟨n4, x4, rfl, hnn, hrd, hb⟩
  rw [HTR.out] at hrd hnn ⊢
  dsimp only at hrd hnn ⊢
  obtain ⟨A4n, c4n, hv4n, -, -⟩ := hnn.shape
  change n4 = .slice A4n (pN RP).length c4n at hv4n
  subst hv4n
  go_wp2_with (refine wpList_alloc_blk rfl 37 rfl (rpc rp0 (.slice none 0 0)) zeroRpR ?_)
  intro vb4 a1 a2 a3
  obtain ⟨vg4, hg⟩ : ∃ g, va4.heap.size = g := ⟨_, rfl⟩
  have AA := Lib.hid a1
  have EB := Lib.hid (hb.trans (a3.mono hb.size))
  have A3 := Lib.hid a3
  have hbg : W3.heap.size ≤ vg4 := by have := hb.size; omega
  have hgs : vg4 ≤ vb4.heap.size := by omega
  have HG := Lib.hid hg
  have RR0 := Lib.hid hrd
  have RR1 := Lib.hid hnn
  rw [hg] at AA A3 RR0 RR1 ⊢
  clear a1 a2 a3 hb hg hrd hnn
  go_wp2_with (refine wpList_store_to rfl 37 _ _ rfl vg4 (rpc RP (.slice A4n (pN RP).length c4n)) (rpc rp0 (.slice none 0 0)) 37 rfl rfl AA.out szRpR rfl (rpc_all _ _ _ _) ?_)
  intro W4 e1 e2 e3 e4
  have X4 := Lib.hid e1
  have E4 := Lib.hid (EB.out.trans (e3.mono hbg))
  have RX4 := Lib.hid (((RR0.out.below A3.out).below e3).more (show vg4 ≤ W4.heap.size by omega))
  have NX4 := Lib.hid (((RR1.out.below A3.out).below e3).more (show vg4 ≤ W4.heap.size by omega))
  clear e1 e2 e3 e4 AA EB A3 hbg hgs HG RR0 RR1
  have P4_w := Lib.hid (P3_w.out.trans (E4.out.mono P3_w.out.size))
  clear P3_w
  have P4_W1 := Lib.hid (P3_W1.out.trans (E4.out.mono P3_W1.out.size))
  clear P3_W1
  have P4_W2 := Lib.hid (E3.out.trans (E4.out.mono E3.out.size))
  obtain ⟨A4, c4, hv4, -, -⟩ := RX4.out.shape
  subst hv4
  go_wp2
  have ZX1 := Lib.hid (X1.out.below P4_W1.out X1.out.lt)
  have ZX2 := Lib.hid (X2.out.below P4_W2.out X2.out.lt)
  have ZX3 := Lib.hid (X3.out.below E4.out X3.out.lt)
  have ZX4 := Lib.hid X4.out
  have ZRX1 := Lib.hid ((RX1.out.below P4_W1.out).more P4_W1.out.size)
  have ZRX2 := Lib.hid ((RX2.out.below P4_W2.out).more P4_W2.out.size)
  have ZRX3 := Lib.hid ((RX3.out.below E4.out).more E4.out.size)
  have ZRX4 := Lib.hid RX4.out
  have ZNX3 := Lib.hid ((NX3.out.below E4.out).more E4.out.size)
  have ZNX4 := Lib.hid NX4.out
  refine wp_region_rely2 38 0 (fun x => ⟨#[.slice A n c, undef, x 37, .pointer (some { block := vg1, off := 0 }), .slice A1 RO.length c1, .int IntKind.i64 ↑EO, .pointer (some { block := vg2, off := 0 }), .slice A2 RO.length c2, .int IntKind.i64 ↑EO, .pointer (some { block := vg3, off := 0 }), .slice A3 RR.length c3, .int IntKind.i64 ↑ER, .pointer (some { block := vg4, off := 0 }), .slice A4 RR.length c4, .int IntKind.i64 ↑ER, .slice A n c, .int IntKind.i64 ↑n, .bool false, undef, .tuple #[Value.agg (orc OO).toArray, Value.slice A1 RO.length c1, Value.int IntKind.i64 ↑EO], .slice A n c, .tuple #[Value.agg (orc OO).toArray, Value.slice A1 RO.length c1, Value.int IntKind.i64 ↑EO], .agg (orc OO).toArray, .slice A1 RO.length c1, .int IntKind.i64 ↑EO, .tuple #[Value.agg (orc OO).toArray, Value.slice A2 RO.length c2, Value.int IntKind.i64 ↑EO], .slice A n c, .tuple #[Value.agg (orc OO).toArray, Value.slice A2 RO.length c2, Value.int IntKind.i64 ↑EO], .agg (orc OO).toArray, .slice A2 RO.length c2, .int IntKind.i64 ↑EO, .tuple #[Value.agg (rpc RP (Value.slice A3n (pN RP).length c3n)).toArray, Value.slice A3 RR.length c3, Value.int IntKind.i64 ↑ER], .slice A n c, .tuple #[Value.agg (rpc RP (Value.slice A3n (pN RP).length c3n)).toArray, Value.slice A3 RR.length c3, Value.int IntKind.i64 ↑ER], .agg (rpc RP (Value.slice A3n (pN RP).length c3n)).toArray, .slice A3 RR.length c3, .int IntKind.i64 ↑ER, .tuple #[Value.agg (rpc RP (Value.slice A4n (pN RP).length c4n)).toArray, Value.slice A4 RR.length c4, Value.int IntKind.i64 ↑ER], .slice A n c, .tuple #[Value.agg (rpc RP (Value.slice A4n (pN RP).length c4n)).toArray, Value.slice A4 RR.length c4, Value.int IntKind.i64 ↑ER], .agg (rpc RP (Value.slice A4n (pN RP).length c4n)).toArray, .slice A4 RR.length c4, .int IntKind.i64 ↑ER, x 0, x 1, x 2, x 3, x 4, x 5, x 6, x 7, x 8, x 9, x 10, x 11, x 12, x 13, x 14, x 15, x 16, x 17, x 18, x 19, x 20, x 21, x 22, x 23, x 24, x 25, x 26, x 27, x 28, x 29, x 30, x 31, x 32, x 33, x 34, x 35, x 36], []⟩) (fun jj => ([(eqV (.bool true)), eqV (.bool true), eqV (.agg (orc OO).toArray), (eqV (.agg (orc OO).toArray)), eqV (.agg (orc OO).toArray), eqV (.bool true), eqV (.bool true), eqV (.bool true), eqV (.slice A1 RO.length c1), eqV (txt RO), eqV (.slice A2 RO.length c2), eqV (txt RO), eqV (.bool true), eqV (.bool true), eqV (.bool true), eqV (.int IntKind.i64 ↑EO), eqV (.int IntKind.i64 ↑EO), eqV (.bool true), eqV (.bool true), eqV (.bool true), eqV (.agg (rpc RP (.slice A3n (pN RP).length c3n)).toArray), (eqV (.agg (rpc RP (.slice A3n (pN RP).length c3n)).toArray)), eqV (.agg (rpc RP (.slice A4n (pN RP).length c4n)).toArray), (eqV (.bool true)), eqV (.bool true), eqV (.bool true), eqV (.slice A3 RR.length c3), eqV (txt RR), eqV (.slice A4 RR.length c4), eqV (txt RR), eqV (.bool true), eqV (.bool true), eqV (.bool true), eqV (.int IntKind.i64 ↑ER), eqV (.int IntKind.i64 ↑ER), eqV (.bool true), eqV (.bool true), eqV (.bool true)] : List (Value → World → Prop)).getD jj (fun _ _ => True)) rfl ⟨fun kk => [_, _, _, _, _, _, _, _, _, _, _, _, _, _, _, _, _, _, _, _, _, _, _, _, _, _, _, _, _, _, _, _, _, _, _, _, _, _].getD kk undef, rfl⟩ (by kernel_rfl) (by kernel_rfl) ?steps ?fin
  case steps =>
    refine StepsAt.cons 0 (fun _ _ _ h hb => h) (fun _ _ => rfl) rfl rfl (fun x wx hb hd K hK => ?_) ?_
    · go_simp
      refine (alive12 _).mono ?_
      rintro e w99 ⟨rfl, hb99⟩
      exact hK.out _ _ hb99 rfl
    refine StepsAt.val 1 (.bool true) rfl (fun _ _ => rfl) rfl rfl (fun x wx hb hd => ?_) ?_
    · have h0 : x 0 = .bool true := hd 0 (by kernel_rfl)
      rw [h0]
      first | (go_simp; done) | (go_simp; rfl)
    refine StepsAt.valG 2 (.agg (orc OO).toArray) rfl (fun _ _ => rfl) rfl (fun x wx hd => ?_) (fun x wx hb hd => ?_) ?_
    · have hG : x 1 = .bool true := hd 1 (by kernel_rfl)
      simp [Region.wanted, yielded, hG]
    · have d0 := (ZX1.out.below hb ZX1.out.lt).at_ 0 _ rfl
      have d1 := (ZX1.out.below hb ZX1.out.lt).at_ 1 _ rfl
      have d2 := (ZX1.out.below hb ZX1.out.lt).at_ 2 _ rfl
      have d3 := (ZX1.out.below hb ZX1.out.lt).at_ 3 _ rfl
      have d4 := (ZX1.out.below hb ZX1.out.lt).at_ 4 _ rfl
      have d5 := (ZX1.out.below hb ZX1.out.lt).at_ 5 _ rfl
      have d6 := (ZX1.out.below hb ZX1.out.lt).at_ 6 _ rfl
      have d7 := (ZX1.out.below hb ZX1.out.lt).at_ 7 _ rfl
      first | (go_simp; done) | (go_simp; rfl)
    refine StepsAt.consG 3 (fun _ _ _ h hb => h) (fun _ _ => rfl) rfl (fun x wx hd => ?_) (fun x wx hb hd K hK => ?_) ?_
    · have hG : x 1 = .bool true := hd 1 (by kernel_rfl)
      simp [Region.wanted, yielded, hG]
    · have h2 : Hid (x 2 = .agg (orc OO).toArray) := hd 2 (by kernel_rfl)
      go_simp
      refine calls_args (args2 := #[.agg (orc OO).toArray]) (by rw [h2.out]) ?_
      refine (oneO_any OO _).mono ?_
      rintro e w99 ⟨rfl, hb99⟩
      exact hK.out _ _ hb99 rfl
    refine StepsAt.valG 4 (.agg (orc OO).toArray) rfl (fun _ _ => rfl) rfl (fun x wx hd => ?_) (fun x wx hb hd => ?_) ?_
    · have hG : x 1 = .bool true := hd 1 (by kernel_rfl)
      simp [Region.wanted, yielded, hG]
    · have d0 := (ZX2.out.below hb ZX2.out.lt).at_ 0 _ rfl
      have d1 := (ZX2.out.below hb ZX2.out.lt).at_ 1 _ rfl
      have d2 := (ZX2.out.below hb ZX2.out.lt).at_ 2 _ rfl
      have d3 := (ZX2.out.below hb ZX2.out.lt).at_ 3 _ rfl
      have d4 := (ZX2.out.below hb ZX2.out.lt).at_ 4 _ rfl
      have d5 := (ZX2.out.below hb ZX2.out.lt).at_ 5 _ rfl
      have d6 := (ZX2.out.below hb ZX2.out.lt).at_ 6 _ rfl
      have d7 := (ZX2.out.below hb ZX2.out.lt).at_ 7 _ rfl
      first | (go_simp; done) | (go_simp; rfl)
    refine StepsAt.valG 5 (.bool true) rfl (fun _ _ => rfl) rfl (fun x wx hd => ?_) (fun x wx hb hd => ?_) ?_
    · have hG : x 1 = .bool true := hd 1 (by kernel_rfl)
      simp [Region.wanted, yielded, hG]
    · have h3 : x 3 = .agg (orc OO).toArray := hd 3 (by kernel_rfl)
      have h4 : x 4 = .agg (orc OO).toArray := hd 4 (by kernel_rfl)
      have heq := run_eqlOrR OO OO
      rw [decide_eq_true rfl] at heq
      have e3 : x 3 = .agg #[.int .i64 (oC OO), .int .i64 (oQ OO), .int .i64 (oK OO), txt (oP OO), txt (oV OO), .int .i64 (oR OO), .int .i64 (oS OO), .int .i64 (oT OO)] := h3
      have e4 : x 4 = .agg #[.int .i64 (oC OO), .int .i64 (oQ OO), .int .i64 (oK OO), txt (oP OO), txt (oV OO), .int .i64 (oR OO), .int .i64 (oS OO), .int .i64 (oT OO)] := h4
      rw [e3, e4]
      first | (go_simp; done) | (go_simp; rfl)
    refine StepsAt.val 6 (.bool true) rfl (fun _ _ => rfl) rfl rfl (fun x wx hb hd => ?_) ?_
    · have h1 : x 1 = .bool true := hd 1 (by kernel_rfl)
      have h5 : x 5 = .bool true := hd 5 (by kernel_rfl)
      rw [h1, h5]
      first | (go_simp; done) | (go_simp; rfl)
    refine StepsAt.val 7 (.bool true) rfl (fun _ _ => rfl) rfl rfl (fun x wx hb hd => ?_) ?_
    · have h6 : x 6 = .bool true := hd 6 (by kernel_rfl)
      rw [h6]
      first | (go_simp; done) | (go_simp; rfl)
    refine StepsAt.valG 8 (.slice A1 RO.length c1) rfl (fun _ _ => rfl) rfl (fun x wx hd => ?_) (fun x wx hb hd => ?_) ?_
    · have hG : x 7 = .bool true := hd 7 (by kernel_rfl)
      simp [Region.wanted, yielded, hG]
    · first | (go_simp; done) | (go_simp; rfl)
    refine StepsAt.valG 9 (txt RO) rfl (fun _ _ => rfl) rfl (fun x wx hd => ?_) (fun x wx hb hd => ?_) ?_
    · have hG : x 7 = .bool true := hd 7 (by kernel_rfl)
      simp [Region.wanted, yielded, hG]
    · have h8 : x 8 = .slice A1 RO.length c1 := hd 8 (by kernel_rfl)
      have cc := run_string_rd 22 9 5 Try.underlying22 Try.underlying5 Try.underlying9 (ZRX1.out.below hb)
      rw [h8]
      first | (go_simp; done) | (go_simp; rfl)
    refine StepsAt.valG 10 (.slice A2 RO.length c2) rfl (fun _ _ => rfl) rfl (fun x wx hd => ?_) (fun x wx hb hd => ?_) ?_
    · have hG : x 7 = .bool true := hd 7 (by kernel_rfl)
      simp [Region.wanted, yielded, hG]
    · first | (go_simp; done) | (go_simp; rfl)
    refine StepsAt.valG 11 (txt RO) rfl (fun _ _ => rfl) rfl (fun x wx hd => ?_) (fun x wx hb hd => ?_) ?_
    · have hG : x 7 = .bool true := hd 7 (by kernel_rfl)
      simp [Region.wanted, yielded, hG]
    · have h10 : x 10 = .slice A2 RO.length c2 := hd 10 (by kernel_rfl)
      have cc := run_string_rd 22 9 5 Try.underlying22 Try.underlying5 Try.underlying9 (ZRX2.out.below hb)
      rw [h10]
      first | (go_simp; done) | (go_simp; rfl)
    refine StepsAt.valG 12 (.bool true) rfl (fun _ _ => rfl) rfl (fun x wx hd => ?_) (fun x wx hb hd => ?_) ?_
    · have hG : x 7 = .bool true := hd 7 (by kernel_rfl)
      simp [Region.wanted, yielded, hG]
    · have h9 : x 9 = txt RO := hd 9 (by kernel_rfl)
      have h11 : x 11 = txt RO := hd 11 (by kernel_rfl)
      rw [h9, h11]
      first | (go_simp; done) | (go_simp; rfl) | (go_simp; simp)
    refine StepsAt.val 13 (.bool true) rfl (fun _ _ => rfl) rfl rfl (fun x wx hb hd => ?_) ?_
    · have h7 : x 7 = .bool true := hd 7 (by kernel_rfl)
      have h12 : x 12 = .bool true := hd 12 (by kernel_rfl)
      rw [h7, h12]
      first | (go_simp; done) | (go_simp; rfl)
    refine StepsAt.val 14 (.bool true) rfl (fun _ _ => rfl) rfl rfl (fun x wx hb hd => ?_) ?_
    · have h13 : x 13 = .bool true := hd 13 (by kernel_rfl)
      rw [h13]
      first | (go_simp; done) | (go_simp; rfl)
    refine StepsAt.valG 15 (.int IntKind.i64 ↑EO) rfl (fun _ _ => rfl) rfl (fun x wx hd => ?_) (fun x wx hb hd => ?_) ?_
    · have hG : x 14 = .bool true := hd 14 (by kernel_rfl)
      simp [Region.wanted, yielded, hG]
    · first | (go_simp; done) | (go_simp; rfl)
    refine StepsAt.valG 16 (.int IntKind.i64 ↑EO) rfl (fun _ _ => rfl) rfl (fun x wx hd => ?_) (fun x wx hb hd => ?_) ?_
    · have hG : x 14 = .bool true := hd 14 (by kernel_rfl)
      simp [Region.wanted, yielded, hG]
    · first | (go_simp; done) | (go_simp; rfl)
    refine StepsAt.valG 17 (.bool true) rfl (fun _ _ => rfl) rfl (fun x wx hd => ?_) (fun x wx hb hd => ?_) ?_
    · have hG : x 14 = .bool true := hd 14 (by kernel_rfl)
      simp [Region.wanted, yielded, hG]
    · have h15 : x 15 = .int IntKind.i64 ↑EO := hd 15 (by kernel_rfl)
      have h16 : x 16 = .int IntKind.i64 ↑EO := hd 16 (by kernel_rfl)
      rw [h15, h16]
      first | (go_simp; done) | (go_simp; rfl) | (go_simp; simp)
    refine StepsAt.val 18 (.bool true) rfl (fun _ _ => rfl) rfl rfl (fun x wx hb hd => ?_) ?_
    · have h14 : x 14 = .bool true := hd 14 (by kernel_rfl)
      have h17 : x 17 = .bool true := hd 17 (by kernel_rfl)
      rw [h14, h17]
      first | (go_simp; done) | (go_simp; rfl)
    refine StepsAt.val 19 (.bool true) rfl (fun _ _ => rfl) rfl rfl (fun x wx hb hd => ?_) ?_
    · have h18 : x 18 = .bool true := hd 18 (by kernel_rfl)
      rw [h18]
      first | (go_simp; done) | (go_simp; rfl)
    refine StepsAt.valG 20 (.agg (rpc RP (.slice A3n (pN RP).length c3n)).toArray) rfl (fun _ _ => rfl) rfl (fun x wx hd => ?_) (fun x wx hb hd => ?_) ?_
    · have hG : x 19 = .bool true := hd 19 (by kernel_rfl)
      simp [Region.wanted, yielded, hG]
    · have d0 := (ZX3.out.below hb ZX3.out.lt).at_ 0 _ rfl
      have d1 := (ZX3.out.below hb ZX3.out.lt).at_ 1 _ rfl
      have d2 := (ZX3.out.below hb ZX3.out.lt).at_ 2 _ rfl
      have d3 := (ZX3.out.below hb ZX3.out.lt).at_ 3 _ rfl
      have d4 := (ZX3.out.below hb ZX3.out.lt).at_ 4 _ rfl
      have d5 := (ZX3.out.below hb ZX3.out.lt).at_ 5 _ rfl
      first | (go_simp; done) | (go_simp; rfl)
    refine StepsAt.consG 21 (fun _ _ _ h hb => h) (fun _ _ => rfl) rfl (fun x wx hd => ?_) (fun x wx hb hd K hK => ?_) ?_
    · have hG : x 19 = .bool true := hd 19 (by kernel_rfl)
      simp [Region.wanted, yielded, hG]
    · have h20 : Hid (x 20 = .agg (rpc RP (.slice A3n (pN RP).length c3n)).toArray) := hd 20 (by kernel_rfl)
      go_simp
      refine calls_args (args2 := #[.agg (rpc RP (.slice A3n (pN RP).length c3n)).toArray]) (by rw [h20.out]) ?_
      refine (toldO_any RP A3n _ c3n _).mono ?_
      rintro e w99 ⟨rfl, hb99⟩
      exact hK.out _ _ hb99 rfl
    refine StepsAt.valG 22 (.agg (rpc RP (.slice A4n (pN RP).length c4n)).toArray) rfl (fun _ _ => rfl) rfl (fun x wx hd => ?_) (fun x wx hb hd => ?_) ?_
    · have hG : x 19 = .bool true := hd 19 (by kernel_rfl)
      simp [Region.wanted, yielded, hG]
    · have d0 := (ZX4.out.below hb ZX4.out.lt).at_ 0 _ rfl
      have d1 := (ZX4.out.below hb ZX4.out.lt).at_ 1 _ rfl
      have d2 := (ZX4.out.below hb ZX4.out.lt).at_ 2 _ rfl
      have d3 := (ZX4.out.below hb ZX4.out.lt).at_ 3 _ rfl
      have d4 := (ZX4.out.below hb ZX4.out.lt).at_ 4 _ rfl
      have d5 := (ZX4.out.below hb ZX4.out.lt).at_ 5 _ rfl
      first | (go_simp; done) | (go_simp; rfl)
    refine StepsAt.consG 23 (fun _ _ _ h hb => h) (fun _ _ => rfl) rfl (fun x wx hd => ?_) (fun x wx hb hd K hK => ?_) ?_
    · have hG : x 19 = .bool true := hd 19 (by kernel_rfl)
      simp [Region.wanted, yielded, hG]
    · have h21 : Hid (x 21 = .agg (rpc RP (.slice A3n (pN RP).length c3n)).toArray) := hd 21 (by kernel_rfl)
      have h22 : Hid (x 22 = .agg (rpc RP (.slice A4n (pN RP).length c4n)).toArray) := hd 22 (by kernel_rfl)
      go_simp
      refine calls_args (args2 := #[.agg (rpc RP (.slice A3n (pN RP).length c3n)).toArray, .agg (rpc RP (.slice A4n (pN RP).length c4n)).toArray]) (by rw [h21.out, h22.out]) ?_
      refine (rfSameIs RP (.slice A3n (pN RP).length c3n) (.slice A4n (pN RP).length c4n) _ ((ZNX3.out.below hb).more hb.size) ((ZNX4.out.below hb).more hb.size) HNM.out).mono ?_
      rintro e w99 ⟨rfl, hb99⟩
      exact hK.out _ _ hb99 rfl
    refine StepsAt.val 24 (.bool true) rfl (fun _ _ => rfl) rfl rfl (fun x wx hb hd => ?_) ?_
    · have h19 : x 19 = .bool true := hd 19 (by kernel_rfl)
      have h23 : x 23 = .bool true := hd 23 (by kernel_rfl)
      rw [h19, h23]
      first | (go_simp; done) | (go_simp; rfl)
    refine StepsAt.val 25 (.bool true) rfl (fun _ _ => rfl) rfl rfl (fun x wx hb hd => ?_) ?_
    · have h24 : x 24 = .bool true := hd 24 (by kernel_rfl)
      rw [h24]
      first | (go_simp; done) | (go_simp; rfl)
    refine StepsAt.valG 26 (.slice A3 RR.length c3) rfl (fun _ _ => rfl) rfl (fun x wx hd => ?_) (fun x wx hb hd => ?_) ?_
    · have hG : x 25 = .bool true := hd 25 (by kernel_rfl)
      simp [Region.wanted, yielded, hG]
    · first | (go_simp; done) | (go_simp; rfl)
    refine StepsAt.valG 27 (txt RR) rfl (fun _ _ => rfl) rfl (fun x wx hd => ?_) (fun x wx hb hd => ?_) ?_
    · have hG : x 25 = .bool true := hd 25 (by kernel_rfl)
      simp [Region.wanted, yielded, hG]
    · have h26 : x 26 = .slice A3 RR.length c3 := hd 26 (by kernel_rfl)
      have cc := run_string_rd 22 9 5 Try.underlying22 Try.underlying5 Try.underlying9 (ZRX3.out.below hb)
      rw [h26]
      first | (go_simp; done) | (go_simp; rfl)
    refine StepsAt.valG 28 (.slice A4 RR.length c4) rfl (fun _ _ => rfl) rfl (fun x wx hd => ?_) (fun x wx hb hd => ?_) ?_
    · have hG : x 25 = .bool true := hd 25 (by kernel_rfl)
      simp [Region.wanted, yielded, hG]
    · first | (go_simp; done) | (go_simp; rfl)
    refine StepsAt.valG 29 (txt RR) rfl (fun _ _ => rfl) rfl (fun x wx hd => ?_) (fun x wx hb hd => ?_) ?_
    · have hG : x 25 = .bool true := hd 25 (by kernel_rfl)
      simp [Region.wanted, yielded, hG]
    · have h28 : x 28 = .slice A4 RR.length c4 := hd 28 (by kernel_rfl)
      have cc := run_string_rd 22 9 5 Try.underlying22 Try.underlying5 Try.underlying9 (ZRX4.out.below hb)
      rw [h28]
      first | (go_simp; done) | (go_simp; rfl)
    refine StepsAt.valG 30 (.bool true) rfl (fun _ _ => rfl) rfl (fun x wx hd => ?_) (fun x wx hb hd => ?_) ?_
    · have hG : x 25 = .bool true := hd 25 (by kernel_rfl)
      simp [Region.wanted, yielded, hG]
    · have h27 : x 27 = txt RR := hd 27 (by kernel_rfl)
      have h29 : x 29 = txt RR := hd 29 (by kernel_rfl)
      rw [h27, h29]
      first | (go_simp; done) | (go_simp; rfl) | (go_simp; simp)
    refine StepsAt.val 31 (.bool true) rfl (fun _ _ => rfl) rfl rfl (fun x wx hb hd => ?_) ?_
    · have h25 : x 25 = .bool true := hd 25 (by kernel_rfl)
      have h30 : x 30 = .bool true := hd 30 (by kernel_rfl)
      rw [h25, h30]
      first | (go_simp; done) | (go_simp; rfl)
    refine StepsAt.val 32 (.bool true) rfl (fun _ _ => rfl) rfl rfl (fun x wx hb hd => ?_) ?_
    · have h31 : x 31 = .bool true := hd 31 (by kernel_rfl)
      rw [h31]
      first | (go_simp; done) | (go_simp; rfl)
    refine StepsAt.valG 33 (.int IntKind.i64 ↑ER) rfl (fun _ _ => rfl) rfl (fun x wx hd => ?_) (fun x wx hb hd => ?_) ?_
    · have hG : x 32 = .bool true := hd 32 (by kernel_rfl)
      simp [Region.wanted, yielded, hG]
    · first | (go_simp; done) | (go_simp; rfl)
    refine StepsAt.valG 34 (.int IntKind.i64 ↑ER) rfl (fun _ _ => rfl) rfl (fun x wx hd => ?_) (fun x wx hb hd => ?_) ?_
    · have hG : x 32 = .bool true := hd 32 (by kernel_rfl)
      simp [Region.wanted, yielded, hG]
    · first | (go_simp; done) | (go_simp; rfl)
    refine StepsAt.valG 35 (.bool true) rfl (fun _ _ => rfl) rfl (fun x wx hd => ?_) (fun x wx hb hd => ?_) ?_
    · have hG : x 32 = .bool true := hd 32 (by kernel_rfl)
      simp [Region.wanted, yielded, hG]
    · have h33 : x 33 = .int IntKind.i64 ↑ER := hd 33 (by kernel_rfl)
      have h34 : x 34 = .int IntKind.i64 ↑ER := hd 34 (by kernel_rfl)
      rw [h33, h34]
      first | (go_simp; done) | (go_simp; rfl) | (go_simp; simp)
    refine StepsAt.val 36 (.bool true) rfl (fun _ _ => rfl) rfl rfl (fun x wx hb hd => ?_) ?_
    · have h32 : x 32 = .bool true := hd 32 (by kernel_rfl)
      have h35 : x 35 = .bool true := hd 35 (by kernel_rfl)
      rw [h32, h35]
      first | (go_simp; done) | (go_simp; rfl)
    refine StepsAt.val 37 (.bool true) rfl (fun _ _ => rfl) rfl rfl (fun x wx hb hd => ?_) ?_
    · have h36 : x 36 = .bool true := hd 36 (by kernel_rfl)
      rw [h36]
      first | (go_simp; done) | (go_simp; rfl)
    exact StepsAt.done
  case fin =>
    intro x wx hb hd
    have hx0 : x 0 = .bool true := hd 0 (by omega)
    have hx1 : x 1 = .bool true := hd 1 (by omega)
    have hx2 : x 2 = .agg (orc OO).toArray := hd 2 (by omega)
    have hx3 : x 3 = .agg (orc OO).toArray := hd 3 (by omega)
    have hx4 : x 4 = .agg (orc OO).toArray := hd 4 (by omega)
    have hx5 : x 5 = .bool true := hd 5 (by omega)
    have hx6 : x 6 = .bool true := hd 6 (by omega)
    have hx7 : x 7 = .bool true := hd 7 (by omega)
    have hx8 : x 8 = .slice A1 RO.length c1 := hd 8 (by omega)
    have hx9 : x 9 = txt RO := hd 9 (by omega)
    have hx10 : x 10 = .slice A2 RO.length c2 := hd 10 (by omega)
    have hx11 : x 11 = txt RO := hd 11 (by omega)
    have hx12 : x 12 = .bool true := hd 12 (by omega)
    have hx13 : x 13 = .bool true := hd 13 (by omega)
    have hx14 : x 14 = .bool true := hd 14 (by omega)
    have hx15 : x 15 = .int IntKind.i64 ↑EO := hd 15 (by omega)
    have hx16 : x 16 = .int IntKind.i64 ↑EO := hd 16 (by omega)
    have hx17 : x 17 = .bool true := hd 17 (by omega)
    have hx18 : x 18 = .bool true := hd 18 (by omega)
    have hx19 : x 19 = .bool true := hd 19 (by omega)
    have hx20 : x 20 = .agg (rpc RP (.slice A3n (pN RP).length c3n)).toArray := hd 20 (by omega)
    have hx21 : x 21 = .agg (rpc RP (.slice A3n (pN RP).length c3n)).toArray := hd 21 (by omega)
    have hx22 : x 22 = .agg (rpc RP (.slice A4n (pN RP).length c4n)).toArray := hd 22 (by omega)
    have hx23 : x 23 = .bool true := hd 23 (by omega)
    have hx24 : x 24 = .bool true := hd 24 (by omega)
    have hx25 : x 25 = .bool true := hd 25 (by omega)
    have hx26 : x 26 = .slice A3 RR.length c3 := hd 26 (by omega)
    have hx27 : x 27 = txt RR := hd 27 (by omega)
    have hx28 : x 28 = .slice A4 RR.length c4 := hd 28 (by omega)
    have hx29 : x 29 = txt RR := hd 29 (by omega)
    have hx30 : x 30 = .bool true := hd 30 (by omega)
    have hx31 : x 31 = .bool true := hd 31 (by omega)
    have hx32 : x 32 = .bool true := hd 32 (by omega)
    have hx33 : x 33 = .int IntKind.i64 ↑ER := hd 33 (by omega)
    have hx34 : x 34 = .int IntKind.i64 ↑ER := hd 34 (by omega)
    have hx35 : x 35 = .bool true := hd 35 (by omega)
    have hx36 : x 36 = .bool true := hd 36 (by omega)
    have hx37 : x 37 = .bool true := hd 37 (by omega)
    refine AnyTill.any (S := fun _ => True) (m := 38) _ _ _ _ ?_
    refine AnyTill.done (by kernel_rfl) ?_
    refine NoPanic.normal ?_
    try dsimp only
    rw [hx0, hx1, hx2, hx3, hx4, hx5, hx6, hx7, hx8, hx9, hx10, hx11, hx12, hx13, hx14, hx15, hx16, hx17, hx18, hx19, hx20, hx21, hx22, hx23, hx24, hx25, hx26, hx27, hx28, hx29, hx30, hx31, hx32, hx33, hx34, hx35, hx36, hx37]
    have ER7 := Lib.hid hb
    clear hx0 hx1 hx2 hx3 hx4 hx5 hx6 hx7 hx8 hx9 hx10 hx11 hx12 hx13 hx14 hx15 hx16 hx17 hx18 hx19 hx20 hx21 hx22 hx23 hx24 hx25 hx26 hx27 hx28 hx29 hx30 hx31 hx32 hx33 hx34 hx35 hx36 hx37 hd hb
    have P5_w := Lib.hid (P4_w.out.trans (ER7.out.mono P4_w.out.size))
    clear P4_w
    have P5_W1 := Lib.hid (P4_W1.out.trans (ER7.out.mono P4_W1.out.size))
    clear P4_W1
    have P5_W2 := Lib.hid (P4_W2.out.trans (ER7.out.mono P4_W2.out.size))
    clear P4_W2
    have P5_W3 := Lib.hid (E4.out.trans (ER7.out.mono E4.out.size))
    go_wp2
    go_ret
    exact ⟨rfl, P5_w.out⟩
end Go.Proofs.Ytmlpiembglmggaa
