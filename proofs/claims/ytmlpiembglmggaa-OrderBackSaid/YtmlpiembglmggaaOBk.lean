/-
  The statements on orders: OrderBack.
-/
import Derived.Test.YtmlpiembglmggaaNS
namespace Go.Proofs.Ytmlpiembglmggaa
open Go.RowKit
theorem back_takeO (o : Or) (l : List UInt8) (hm : mayO o = true) (hf : ∀ n ∈ nsO o, fit64 n) : takeO (([] ++ encO o) ++ l) = (o, l, 0) := by
  rw [List.nil_append]
  exact takeO_enc o l hm (hf _ (by simp [nsO])) (hf _ (by simp [nsO])) (hf _ (by simp [nsO]))
theorem back_takeR (r : Rp) (l : List UInt8) (hf : ∀ n ∈ nsR r, fit64 n) (hv : (pV r).length + sumS (pN r) ≤ 1000) (hn : (pN r).length ≤ 200) : takeR (([] ++ encR r) ++ l) = if pE r < 0 ∨ 16 < pE r then (rp0, [], 3) else (r, l, 0) := by
  rw [List.nil_append]
  exact takeR_enc r l (hf _ (by simp [nsR])) (hf _ (by simp [nsR])) (hf _ (by simp [nsR])) (hf _ (by simp [nsR])) (by omega) hn (fun s hs => by have := mem_sum (pN r) s hs; omega)
set_option maxRecDepth 1000000 in
set_option maxHeartbeats 16000000 in
theorem backO_all (o : Or) (r : Rp) (nv v : Value) (l : List UInt8) (w : World) (hr : Rd w.heap.size w v l) (hr2 : RdS w.heap.size w nv (pN r)) (fo : ∀ n ∈ nsO o, fit64 n) (fr : ∀ n ∈ nsR r, fit64 n) (hv : (pV r).length ≤ 140737488355328) (hs : ∀ s ∈ pN r, s.size ≤ 140737488355328) :
    Calls Try.prog 5 #[.agg (orc o).toArray, .agg (rpc r nv).toArray, v] w (One (.bool true) w) := by
  obtain ⟨A, c, rfl, hc, hm⟩ := hr.shape
  obtain ⟨An, cn, rfl, -, -⟩ := hr2.shape
  obtain ⟨i0, hI, hz0, hz1, hz2⟩ := info_parts info5
  unfold maxLen at hm
  obtain ⟨n, hn⟩ : ∃ n, l.length = n := ⟨_, rfl⟩
  have HN := Lib.hid hn
  have HR := Lib.hid hr
  have HS := Lib.hid hr2
  have FO := Lib.hid fo
  have FR := Lib.hid fr
  have HV := Lib.hid hv
  have HSZ := Lib.hid hs
  rw [hn] at HR hc ⊢
  clear hr hn hr2 fo fr hv hs
  go_enter Try.func5, Try.ntmps5
  go_wp2_with (refine wpList_box_blk rfl 24 _ rfl (orc o) rfl ?_)
  intro y0 b1 b2 b3
  obtain ⟨gb0, hg⟩ : ∃ g, w.heap.size = g := ⟨_, rfl⟩
  have X0 := Lib.hid b1
  have EB0 := Lib.hid b3
  rw [hg] at X0 ⊢
  clear b1 b2 b3 hg
  go_wp2_with (refine wpList_box_blk rfl 28 _ rfl (rpc r (.slice An (pN r).length cn)) rfl ?_)
  intro y1 b1 b2 b3
  obtain ⟨gb1, hg⟩ : ∃ g, y0.heap.size = g := ⟨_, rfl⟩
  have X1 := Lib.hid b1
  have EB1 := Lib.hid b3
  rw [hg] at X1 ⊢
  clear b1 b2 b3 hg
  have P0_w := Lib.hid (EB0.out.trans (EB1.out.mono EB0.out.size))
  by_cases hk : (4000 : Int) < (n : Int)
  · go_wp2_with fail
    refine (alive12 y1).mono ?_
    rintro e W1 ⟨rfl, hb⟩
    have E1 := Lib.hid hb
    clear hb
    have P1_w := Lib.hid (P0_w.out.trans (E1.out.mono P0_w.out.size))
    clear P0_w
    have P1_y0 := Lib.hid (EB1.out.trans (E1.out.mono EB1.out.size))
    go_wp2
    go_ret
    exact ⟨rfl, P1_w.out⟩
  have HL : Hid (l.length ≤ 4000) := by
    show _ ≤ _
    rw [HN.out]
    omega
  have c_X1 := X1.out.at_ 0 _ rfl
  have c_X1_1 := X1.out.at_ 1 _ rfl
  have c_X1_2 := X1.out.at_ 2 _ rfl
  have c_X1_3 := X1.out.at_ 3 _ rfl
  have c_X1_4 := X1.out.at_ 4 _ rfl
  have c_X1_5 := X1.out.at_ 5 _ rfl
  go_wp2_with fail
  refine (longO_any r (.slice An (pN r).length cn) y1 ((HS.out.below P0_w.out).more P0_w.out.size) HV.out HSZ.out).mono ?_
  rintro e W1 ⟨rfl, hb⟩
  have E1 := Lib.hid hb
  clear hb c_X1 c_X1_1 c_X1_2 c_X1_3 c_X1_4 c_X1_5
  have P1_w := Lib.hid (P0_w.out.trans (E1.out.mono P0_w.out.size))
  clear P0_w
  have P1_y0 := Lib.hid (EB1.out.trans (E1.out.mono EB1.out.size))
  have c_X1 := (X1.out.below E1.out X1.out.lt).at_ 0 _ rfl
  have c_X1_1 := (X1.out.below E1.out X1.out.lt).at_ 1 _ rfl
  have c_X1_2 := (X1.out.below E1.out X1.out.lt).at_ 2 _ rfl
  have c_X1_3 := (X1.out.below E1.out X1.out.lt).at_ 3 _ rfl
  have c_X1_4 := (X1.out.below E1.out X1.out.lt).at_ 4 _ rfl
  have c_X1_5 := (X1.out.below E1.out X1.out.lt).at_ 5 _ rfl
  by_cases hg : (1000 : Int) < longR r
  · go_wp2_with fail
    refine (alive12 W1).mono ?_
    rintro e W2 ⟨rfl, hb⟩
    have E2 := Lib.hid hb
    clear hb c_X1 c_X1_1 c_X1_2 c_X1_3 c_X1_4 c_X1_5
    have P2_w := Lib.hid (P1_w.out.trans (E2.out.mono P1_w.out.size))
    clear P1_w
    have P2_y0 := Lib.hid (P1_y0.out.trans (E2.out.mono P1_y0.out.size))
    clear P1_y0
    have P2_y1 := Lib.hid (E1.out.trans (E2.out.mono E1.out.size))
    go_wp2
    go_ret
    exact ⟨rfl, P2_w.out⟩
  by_cases hcn : (200 : Int) < ((pN r).length : Int)
  · go_wp2_with fail
    refine (alive12 W1).mono ?_
    rintro e W2 ⟨rfl, hb⟩
    have E2 := Lib.hid hb
    clear hb c_X1 c_X1_1 c_X1_2 c_X1_3 c_X1_4 c_X1_5
    have P2_w := Lib.hid (P1_w.out.trans (E2.out.mono P1_w.out.size))
    clear P1_w
    have P2_y0 := Lib.hid (P1_y0.out.trans (E2.out.mono P1_y0.out.size))
    clear P1_y0
    have P2_y1 := Lib.hid (E1.out.trans (E2.out.mono E1.out.size))
    go_wp2
    go_ret
    exact ⟨rfl, P2_w.out⟩
  have HLS : Hid ((pV r).length + sumS (pN r) ≤ 1000) := by
    have h := long_sum (r := r) (B := 1000) (by omega) (by decide)
    show _ ≤ _
    omega
  have HCN : Hid ((pN r).length ≤ 200) := by
    show _ ≤ _
    omega
  have c_X0 := (X0.out.below P1_y0.out X0.out.lt).at_ 0 _ rfl
  have c_X0_1 := (X0.out.below P1_y0.out X0.out.lt).at_ 1 _ rfl
  have c_X0_2 := (X0.out.below P1_y0.out X0.out.lt).at_ 2 _ rfl
  have c_X0_3 := (X0.out.below P1_y0.out X0.out.lt).at_ 3 _ rfl
  have c_X0_4 := (X0.out.below P1_y0.out X0.out.lt).at_ 4 _ rfl
  have c_X0_5 := (X0.out.below P1_y0.out X0.out.lt).at_ 5 _ rfl
  have c_X0_6 := (X0.out.below P1_y0.out X0.out.lt).at_ 6 _ rfl
  have c_X0_7 := (X0.out.below P1_y0.out X0.out.lt).at_ 7 _ rfl
  go_wp2_with fail
  refine (orMay_any o W1).mono ?_
  rintro e W2 ⟨rfl, hb⟩
  have E2 := Lib.hid hb
  clear hb c_X1 c_X1_1 c_X1_2 c_X1_3 c_X1_4 c_X1_5 c_X0 c_X0_1 c_X0_2 c_X0_3 c_X0_4 c_X0_5 c_X0_6 c_X0_7
  have P2_w := Lib.hid (P1_w.out.trans (E2.out.mono P1_w.out.size))
  clear P1_w
  have P2_y0 := Lib.hid (P1_y0.out.trans (E2.out.mono P1_y0.out.size))
  clear P1_y0
  have P2_y1 := Lib.hid (E1.out.trans (E2.out.mono E1.out.size))
  clear hk hg hcn
  cases hM : mayO o with
  | false =>
    clear hM
    have c_X1 := (X1.out.below P2_y1.out X1.out.lt).at_ 0 _ rfl
    have c_X1_1 := (X1.out.below P2_y1.out X1.out.lt).at_ 1 _ rfl
    have c_X1_2 := (X1.out.below P2_y1.out X1.out.lt).at_ 2 _ rfl
    have c_X1_3 := (X1.out.below P2_y1.out X1.out.lt).at_ 3 _ rfl
    have c_X1_4 := (X1.out.below P2_y1.out X1.out.lt).at_ 4 _ rfl
    have c_X1_5 := (X1.out.below P2_y1.out X1.out.lt).at_ 5 _ rfl
    go_wp2_with fail
    refine (orPutR_any (.slice none 0 0) [] r (.slice An (pN r).length cn) W2 (Rd.nil _ _) ((HS.out.below P2_w.out).more P2_w.out.size) FR.out (by have h2 := HLS.out; have h3 := encs_sum (pN r); simp; omega) (by have := HCN.out; omega)).mono ?_
    rintro e wa3 ⟨va3, rfl, hown, hb⟩
    clear c_X1 c_X1_1 c_X1_2 c_X1_3 c_X1_4 c_X1_5
    have HO9 := Lib.hid hown
    have HB9 := Lib.hid hb
    have HS9 := Lib.hid hb.size
    clear hown hb
    have HR9 := Lib.hid (((HR.out.below P2_w.out).more P2_w.out.size).below HB9.out)
    go_wp2_with (at_builtin; refine wpList_app rfl _ _ 22 rfl 5 i0 Try.underlying22 hI hz0 hz1 hz2 W2.heap.size W2.heap.size _ _ ([] ++ encR r) l rfl HO9.out rfl HR9.out ?c1 HS9.out ?_)
    case c1 => have h1 := encR_len r; have h2 := HLS.out; have h3 := encs_sum (pN r); have h4 := HL.out; simp only [List.nil_append]; omega
    intro vb3 W3 hown hb5
    have RB := Lib.hid hown.rd
    have E3 := Lib.hid (HB9.out.trans hb5)
    clear hown hb5 HO9 HB9 HS9 HR9
    have P3_w := Lib.hid (P2_w.out.trans (E3.out.mono P2_w.out.size))
    clear P2_w
    have P3_y0 := Lib.hid (P2_y0.out.trans (E3.out.mono P2_y0.out.size))
    clear P2_y0
    have P3_y1 := Lib.hid (P2_y1.out.trans (E3.out.mono P2_y1.out.size))
    clear P2_y1
    have P3_W1 := Lib.hid (E2.out.trans (E3.out.mono E2.out.size))
    have HTR := Lib.hid (back_takeR r l FR.out HLS.out HCN.out)
    by_cases hE : pE r < 0
    case pos =>
      rw [if_pos (Or.inl hE)] at HTR
      go_wp2_with fail
      refine (orTakeR_any vb3 (([] ++ encR r) ++ l) W3 RB.out (by rw [List.length_append]; have h1 := encR_len r; have h2 := HLS.out; have h3 := encs_sum (pN r); have h4 := HL.out; simp only [List.nil_append]; omega)).mono ?_
      rintro e va4 ⟨n9, x9, rfl, hnn, hrd, hb⟩
      rw [HTR.out] at hrd hnn ⊢
      dsimp only at hrd hnn ⊢
      obtain ⟨A9n, c9n, hv9n, -, -⟩ := hnn.shape
      change n9 = .slice A9n 0 c9n at hv9n
      subst hv9n
      obtain ⟨A9, c9, hv9, -, -⟩ := hrd.shape
      change x9 = .slice A9 0 c9 at hv9
      subst hv9
      go_wp2_with (refine wpList_alloc_blk rfl 28 rfl (rpc rp0 (.slice none 0 0)) zeroRpP ?_)
      intro vb4 a1 a2 a3
      obtain ⟨vg4, hg⟩ : ∃ g, va4.heap.size = g := ⟨_, rfl⟩
      have AA := Lib.hid a1
      have EB := Lib.hid (hb.trans (a3.mono hb.size))
      have A3 := Lib.hid a3
      have hbg : W3.heap.size ≤ vg4 := by have := hb.size; omega
      have hgs : vg4 ≤ vb4.heap.size := by omega
      have HG := Lib.hid hg
      have RR0 := Lib.hid hrd
      have RR1 := Lib.hid hnn
      rw [hg] at AA A3 RR0 RR1 ⊢
      clear a1 a2 a3 hb hg hrd hnn
      go_wp2_with (refine wpList_store_to rfl 28 _ _ rfl vg4 (rpc rp0 (.slice A9n 0 c9n)) (rpc rp0 (.slice none 0 0)) 28 rfl rfl AA.out szRpP rfl (rpc_all _ _ _ _) ?_)
      intro W4 e1 e2 e3 e4
      have Xa0 := Lib.hid e1
      have E4 := Lib.hid (EB.out.trans (e3.mono hbg))
      have RXa0 := Lib.hid (((RR0.out.below A3.out).below e3).more (show vg4 ≤ W4.heap.size by omega))
      have NXa0 := Lib.hid (((RR1.out.below A3.out).below e3).more (show vg4 ≤ W4.heap.size by omega))
      clear e1 e2 e3 e4 AA EB A3 hbg hgs HG RR0 RR1
      have P4_w := Lib.hid (P3_w.out.trans (E4.out.mono P3_w.out.size))
      clear P3_w
      have P4_y0 := Lib.hid (P3_y0.out.trans (E4.out.mono P3_y0.out.size))
      clear P3_y0
      have P4_y1 := Lib.hid (P3_y1.out.trans (E4.out.mono P3_y1.out.size))
      clear P3_y1
      have P4_W1 := Lib.hid (P3_W1.out.trans (E4.out.mono P3_W1.out.size))
      clear P3_W1
      have P4_W2 := Lib.hid (E3.out.trans (E4.out.mono E3.out.size))
      have c_X1 := (X1.out.below P4_y1.out X1.out.lt).at_ 0 _ rfl
      have c_X1_1 := (X1.out.below P4_y1.out X1.out.lt).at_ 1 _ rfl
      have c_X1_2 := (X1.out.below P4_y1.out X1.out.lt).at_ 2 _ rfl
      have c_X1_3 := (X1.out.below P4_y1.out X1.out.lt).at_ 3 _ rfl
      have c_X1_4 := (X1.out.below P4_y1.out X1.out.lt).at_ 4 _ rfl
      have c_X1_5 := (X1.out.below P4_y1.out X1.out.lt).at_ 5 _ rfl
      go_wp2_with fail
      refine (alive12 W4).mono ?_
      rintro e W5 ⟨rfl, hb⟩
      have E5 := Lib.hid hb
      clear hb c_X1 c_X1_1 c_X1_2 c_X1_3 c_X1_4 c_X1_5
      have P5_w := Lib.hid (P4_w.out.trans (E5.out.mono P4_w.out.size))
      clear P4_w
      have P5_y0 := Lib.hid (P4_y0.out.trans (E5.out.mono P4_y0.out.size))
      clear P4_y0
      have P5_y1 := Lib.hid (P4_y1.out.trans (E5.out.mono P4_y1.out.size))
      clear P4_y1
      have P5_W1 := Lib.hid (P4_W1.out.trans (E5.out.mono P4_W1.out.size))
      clear P4_W1
      have P5_W2 := Lib.hid (P4_W2.out.trans (E5.out.mono P4_W2.out.size))
      clear P4_W2
      have P5_W3 := Lib.hid (E4.out.trans (E5.out.mono E4.out.size))
      go_wp2
      go_ret
      exact ⟨rfl, P5_w.out⟩
    have hEa := hE
    clear hE
    by_cases hE : (16 : Int) < pE r
    case pos =>
      rw [if_pos (Or.inr hE)] at HTR
      go_wp2_with fail
      refine (orTakeR_any vb3 (([] ++ encR r) ++ l) W3 RB.out (by rw [List.length_append]; have h1 := encR_len r; have h2 := HLS.out; have h3 := encs_sum (pN r); have h4 := HL.out; simp only [List.nil_append]; omega)).mono ?_
      rintro e va4 ⟨n9, x9, rfl, hnn, hrd, hb⟩
      rw [HTR.out] at hrd hnn ⊢
      dsimp only at hrd hnn ⊢
      obtain ⟨A9n, c9n, hv9n, -, -⟩ := hnn.shape
      change n9 = .slice A9n 0 c9n at hv9n
      subst hv9n
      obtain ⟨A9, c9, hv9, -, -⟩ := hrd.shape
      change x9 = .slice A9 0 c9 at hv9
      subst hv9
      go_wp2_with (refine wpList_alloc_blk rfl 28 rfl (rpc rp0 (.slice none 0 0)) zeroRpP ?_)
      intro vb4 a1 a2 a3
      obtain ⟨vg4, hg⟩ : ∃ g, va4.heap.size = g := ⟨_, rfl⟩
      have AA := Lib.hid a1
      have EB := Lib.hid (hb.trans (a3.mono hb.size))
      have A3 := Lib.hid a3
      have hbg : W3.heap.size ≤ vg4 := by have := hb.size; omega
      have hgs : vg4 ≤ vb4.heap.size := by omega
      have HG := Lib.hid hg
      have RR0 := Lib.hid hrd
      have RR1 := Lib.hid hnn
      rw [hg] at AA A3 RR0 RR1 ⊢
      clear a1 a2 a3 hb hg hrd hnn
      go_wp2_with (refine wpList_store_to rfl 28 _ _ rfl vg4 (rpc rp0 (.slice A9n 0 c9n)) (rpc rp0 (.slice none 0 0)) 28 rfl rfl AA.out szRpP rfl (rpc_all _ _ _ _) ?_)
      intro W4 e1 e2 e3 e4
      have Xa1 := Lib.hid e1
      have E4 := Lib.hid (EB.out.trans (e3.mono hbg))
      have RXa1 := Lib.hid (((RR0.out.below A3.out).below e3).more (show vg4 ≤ W4.heap.size by omega))
      have NXa1 := Lib.hid (((RR1.out.below A3.out).below e3).more (show vg4 ≤ W4.heap.size by omega))
      clear e1 e2 e3 e4 AA EB A3 hbg hgs HG RR0 RR1
      have P4_w := Lib.hid (P3_w.out.trans (E4.out.mono P3_w.out.size))
      clear P3_w
      have P4_y0 := Lib.hid (P3_y0.out.trans (E4.out.mono P3_y0.out.size))
      clear P3_y0
      have P4_y1 := Lib.hid (P3_y1.out.trans (E4.out.mono P3_y1.out.size))
      clear P3_y1
      have P4_W1 := Lib.hid (P3_W1.out.trans (E4.out.mono P3_W1.out.size))
      clear P3_W1
      have P4_W2 := Lib.hid (E3.out.trans (E4.out.mono E3.out.size))
      have c_X1 := (X1.out.below P4_y1.out X1.out.lt).at_ 0 _ rfl
      have c_X1_1 := (X1.out.below P4_y1.out X1.out.lt).at_ 1 _ rfl
      have c_X1_2 := (X1.out.below P4_y1.out X1.out.lt).at_ 2 _ rfl
      have c_X1_3 := (X1.out.below P4_y1.out X1.out.lt).at_ 3 _ rfl
      have c_X1_4 := (X1.out.below P4_y1.out X1.out.lt).at_ 4 _ rfl
      have c_X1_5 := (X1.out.below P4_y1.out X1.out.lt).at_ 5 _ rfl
      go_wp2_with fail
      refine (alive12 W4).mono ?_
      rintro e W5 ⟨rfl, hb⟩
      have E5 := Lib.hid hb
      clear hb c_X1 c_X1_1 c_X1_2 c_X1_3 c_X1_4 c_X1_5
      have P5_w := Lib.hid (P4_w.out.trans (E5.out.mono P4_w.out.size))
      clear P4_w
      have P5_y0 := Lib.hid (P4_y0.out.trans (E5.out.mono P4_y0.out.size))
      clear P4_y0
      have P5_y1 := Lib.hid (P4_y1.out.trans (E5.out.mono P4_y1.out.size))
      clear P4_y1
      have P5_W1 := Lib.hid (P4_W1.out.trans (E5.out.mono P4_W1.out.size))
      clear P4_W1
      have P5_W2 := Lib.hid (P4_W2.out.trans (E5.out.mono P4_W2.out.size))
      clear P4_W2
      have P5_W3 := Lib.hid (E4.out.trans (E5.out.mono E4.out.size))
      go_wp2
      go_ret
      exact ⟨rfl, P5_w.out⟩
    have hEb := hE
    clear hE
    rw [if_neg (by omega)] at HTR
    go_wp2_with fail
    refine (orTakeR_any vb3 (([] ++ encR r) ++ l) W3 RB.out (by rw [List.length_append]; have h1 := encR_len r; have h2 := HLS.out; have h3 := encs_sum (pN r); have h4 := HL.out; simp only [List.nil_append]; omega)).mono ?_
    rintro e va4 ⟨n9, x9, rfl, hnn, hrd, hb⟩
    rw [HTR.out] at hrd hnn ⊢
    dsimp only at hrd hnn ⊢
    obtain ⟨A9n, c9n, hv9n, -, -⟩ := hnn.shape
    change n9 = .slice A9n (pN r).length c9n at hv9n
    subst hv9n
    obtain ⟨A9, c9, hv9, -, -⟩ := hrd.shape
    change x9 = .slice A9 l.length c9 at hv9
    subst hv9
    rw [HN.out] at hrd ⊢
    go_wp2_with (refine wpList_alloc_blk rfl 28 rfl (rpc rp0 (.slice none 0 0)) zeroRpP ?_)
    intro vb4 a1 a2 a3
    obtain ⟨vg4, hg⟩ : ∃ g, va4.heap.size = g := ⟨_, rfl⟩
    have AA := Lib.hid a1
    have EB := Lib.hid (hb.trans (a3.mono hb.size))
    have A3 := Lib.hid a3
    have hbg : W3.heap.size ≤ vg4 := by have := hb.size; omega
    have hgs : vg4 ≤ vb4.heap.size := by omega
    have HG := Lib.hid hg
    have RR0 := Lib.hid hrd
    have RR1 := Lib.hid hnn
    rw [hg] at AA A3 RR0 RR1 ⊢
    clear a1 a2 a3 hb hg hrd hnn
    go_wp2_with (refine wpList_store_to rfl 28 _ _ rfl vg4 (rpc r (.slice A9n (pN r).length c9n)) (rpc rp0 (.slice none 0 0)) 28 rfl rfl AA.out szRpP rfl (rpc_all _ _ _ _) ?_)
    intro W4 e1 e2 e3 e4
    have Xa2 := Lib.hid e1
    have E4 := Lib.hid (EB.out.trans (e3.mono hbg))
    have RXa2 := Lib.hid (((RR0.out.below A3.out).below e3).more (show vg4 ≤ W4.heap.size by omega))
    have NXa2 := Lib.hid (((RR1.out.below A3.out).below e3).more (show vg4 ≤ W4.heap.size by omega))
    clear e1 e2 e3 e4 AA EB A3 hbg hgs HG RR0 RR1
    have P4_w := Lib.hid (P3_w.out.trans (E4.out.mono P3_w.out.size))
    clear P3_w
    have P4_y0 := Lib.hid (P3_y0.out.trans (E4.out.mono P3_y0.out.size))
    clear P3_y0
    have P4_y1 := Lib.hid (P3_y1.out.trans (E4.out.mono P3_y1.out.size))
    clear P3_y1
    have P4_W1 := Lib.hid (P3_W1.out.trans (E4.out.mono P3_W1.out.size))
    clear P3_W1
    have P4_W2 := Lib.hid (E3.out.trans (E4.out.mono E3.out.size))
    have c_X1 := (X1.out.below P4_y1.out X1.out.lt).at_ 0 _ rfl
    have c_X1_1 := (X1.out.below P4_y1.out X1.out.lt).at_ 1 _ rfl
    have c_X1_2 := (X1.out.below P4_y1.out X1.out.lt).at_ 2 _ rfl
    have c_X1_3 := (X1.out.below P4_y1.out X1.out.lt).at_ 3 _ rfl
    have c_X1_4 := (X1.out.below P4_y1.out X1.out.lt).at_ 4 _ rfl
    have c_X1_5 := (X1.out.below P4_y1.out X1.out.lt).at_ 5 _ rfl
    go_wp2
    clear c_X1 c_X1_1 c_X1_2 c_X1_3 c_X1_4 c_X1_5
    clear hEa hEb
    have ZaX1 := Lib.hid (X1.out.below P4_y1.out X1.out.lt)
    have ZaXa2 := Lib.hid Xa2.out
    have ZaRXa2 := Lib.hid RXa2.out
    have ZaNXa2 := Lib.hid NXa2.out
    have ZaHS := Lib.hid ((HS.out.below P4_w.out).more P4_w.out.size)
    have ZaHR := Lib.hid ((HR.out.below P4_w.out).more P4_w.out.size)
    refine wp_region_rely2 20 0 (fun x => ⟨#[.agg (orc o).toArray, .agg (rpc r (Value.slice An (pN r).length cn)).toArray, .slice A n c, .pointer (some { block := gb0, off := 0 }), .pointer (some { block := gb1, off := 0 }), undef, x 19, undef, undef, undef, .pointer (some { block := vg4, off := 0 }), .slice A9 n c9, .int IntKind.i64 0, .slice A n c, .int IntKind.i64 (n : Int), .bool false, .bool false, .agg #[Value.int IntKind.i64 (pC r), Value.int IntKind.i64 (pQ r), Value.int IntKind.i64 (pE r), txt (pV r), Value.int IntKind.i64 (pR r), Value.slice An (pN r).length cn], .int IntKind.i64 (longR r), .bool (decide (1000 < longR r)), .bool (decide (1000 < longR r)), .bool (decide (1000 < longR r)), .pointer (some { block := gb1, off := 5 }), .slice An (pN r).length cn, .int IntKind.i64 ((pN r).length : Int), .bool (decide (200 < ((pN r).length : Int))), .bool (decide (1000 < longR r) || decide (200 < ((pN r).length : Int))), undef, .agg #[Value.int IntKind.i64 (oC o), Value.int IntKind.i64 (oQ o), Value.int IntKind.i64 (oK o), txt (oP o), txt (oV o), Value.int IntKind.i64 (oR o), Value.int IntKind.i64 (oS o), Value.int IntKind.i64 (oT o)], .bool false, undef, undef, undef, undef, undef, undef, undef, undef, undef, undef, undef, undef, undef, undef, undef, undef, undef, undef, undef, undef, undef, undef, undef, .tuple #[Value.agg (rpc r (Value.slice A9n (pN r).length c9n)).toArray, Value.slice A9 n c9, Value.int IntKind.i64 0], .agg #[Value.int IntKind.i64 (pC r), Value.int IntKind.i64 (pQ r), Value.int IntKind.i64 (pE r), txt (pV r), Value.int IntKind.i64 (pR r), Value.slice An (pN r).length cn], va3, .slice A n c, vb3, .tuple #[Value.agg (rpc r (Value.slice A9n (pN r).length c9n)).toArray, Value.slice A9 n c9, Value.int IntKind.i64 0], .agg (rpc r (Value.slice A9n (pN r).length c9n)).toArray, .slice A9 n c9, .int IntKind.i64 0, .pointer (some { block := gb1, off := 2 }), .int IntKind.i64 (pE r), .bool (decide (pE r < 0)), .bool (decide (pE r < 0)), .pointer (some { block := gb1, off := 2 }), .int IntKind.i64 (pE r), .bool (decide (16 < pE r)), .bool (decide (pE r < 0) || decide (16 < pE r)), undef, undef, undef, undef, undef, x 0, x 1, x 2, x 3, x 4, x 5, x 6, x 7, x 8, x 9, x 10, x 11, x 12, x 13, x 14, x 15, x 16, x 17, x 18], []⟩) (fun jj => ([(eqV (.bool true)), eqV (.bool true), eqV (.int IntKind.i64 0), eqV (.bool true), eqV (.bool true), eqV (.bool true), eqV (.agg (rpc r (.slice A9n (pN r).length c9n)).toArray), (eqV (.agg (rpc r (.slice A9n (pN r).length c9n)).toArray)), eqV (.agg (rpc r (.slice An (pN r).length cn)).toArray), (eqV (.agg (rpc r (.slice An (pN r).length cn)).toArray)), (eqV (.bool true)), eqV (.bool true), eqV (.bool true), eqV (.slice A9 n c9), eqV (txt l), eqV (.slice A n c), eqV (txt l), eqV (.bool true), eqV (.bool true), eqV (.bool true)] : List (Value → World → Prop)).getD jj (fun _ _ => True)) rfl ⟨fun kk => [_, _, _, _, _, _, _, _, _, _, _, _, _, _, _, _, _, _, _, _].getD kk undef, rfl⟩ (by kernel_rfl) (by kernel_rfl) ?steps ?fin
    case steps =>
      refine StepsAt.cons 0 (fun _ _ _ h hb => h) (fun _ _ => rfl) rfl rfl (fun x wxa hb hd K hK => ?_) ?_
      · go_simp
        refine (alive12 _).mono ?_
        rintro e w99 ⟨rfl, hb99⟩
        exact hK.out _ _ hb99 rfl
      refine StepsAt.val 1 (.bool true) rfl (fun _ _ => rfl) rfl rfl (fun x wxa hb hd => ?_) ?_
      · have h0 : x 0 = .bool true := hd 0 (by kernel_rfl)
        rw [h0]
        first | (go_simp; done) | (go_simp; rfl)
      refine StepsAt.valG 2 (.int IntKind.i64 0) rfl (fun _ _ => rfl) rfl (fun x wxa hd => ?_) (fun x wxa hb hd => ?_) ?_
      · have hG : x 1 = .bool true := hd 1 (by kernel_rfl)
        simp [Region.wanted, yielded, hG]
      · first | (go_simp; done) | (go_simp; rfl)
      refine StepsAt.valG 3 (.bool true) rfl (fun _ _ => rfl) rfl (fun x wxa hd => ?_) (fun x wxa hb hd => ?_) ?_
      · have hG : x 1 = .bool true := hd 1 (by kernel_rfl)
        simp [Region.wanted, yielded, hG]
      · have h2 : x 2 = .int IntKind.i64 0 := hd 2 (by kernel_rfl)
        rw [h2]
        first | (go_simp; done) | (go_simp; rfl) | (go_simp; simp)
      refine StepsAt.val 4 (.bool true) rfl (fun _ _ => rfl) rfl rfl (fun x wxa hb hd => ?_) ?_
      · have h1 : x 1 = .bool true := hd 1 (by kernel_rfl)
        have h3 : x 3 = .bool true := hd 3 (by kernel_rfl)
        rw [h1, h3]
        first | (go_simp; done) | (go_simp; rfl)
      refine StepsAt.val 5 (.bool true) rfl (fun _ _ => rfl) rfl rfl (fun x wxa hb hd => ?_) ?_
      · have h4 : x 4 = .bool true := hd 4 (by kernel_rfl)
        rw [h4]
        first | (go_simp; done) | (go_simp; rfl)
      refine StepsAt.valG 6 (.agg (rpc r (.slice A9n (pN r).length c9n)).toArray) rfl (fun _ _ => rfl) rfl (fun x wxa hd => ?_) (fun x wxa hb hd => ?_) ?_
      · have hG : x 5 = .bool true := hd 5 (by kernel_rfl)
        simp [Region.wanted, yielded, hG]
      · have d0 := (ZaXa2.out.below hb ZaXa2.out.lt).at_ 0 _ rfl
        have d1 := (ZaXa2.out.below hb ZaXa2.out.lt).at_ 1 _ rfl
        have d2 := (ZaXa2.out.below hb ZaXa2.out.lt).at_ 2 _ rfl
        have d3 := (ZaXa2.out.below hb ZaXa2.out.lt).at_ 3 _ rfl
        have d4 := (ZaXa2.out.below hb ZaXa2.out.lt).at_ 4 _ rfl
        have d5 := (ZaXa2.out.below hb ZaXa2.out.lt).at_ 5 _ rfl
        first | (go_simp; done) | (go_simp; rfl)
      refine StepsAt.consG 7 (fun _ _ _ h hb => h) (fun _ _ => rfl) rfl (fun x wxa hd => ?_) (fun x wxa hb hd K hK => ?_) ?_
      · have hG : x 5 = .bool true := hd 5 (by kernel_rfl)
        simp [Region.wanted, yielded, hG]
      · have h6 : Hid (x 6 = .agg (rpc r (.slice A9n (pN r).length c9n)).toArray) := hd 6 (by kernel_rfl)
        go_simp
        refine calls_args (args2 := #[.agg (rpc r (.slice A9n (pN r).length c9n)).toArray]) (by rw [h6.out]) ?_
        refine (toldO_any r A9n _ c9n _).mono ?_
        rintro e w99 ⟨rfl, hb99⟩
        exact hK.out _ _ hb99 rfl
      refine StepsAt.valG 8 (.agg (rpc r (.slice An (pN r).length cn)).toArray) rfl (fun _ _ => rfl) rfl (fun x wxa hd => ?_) (fun x wxa hb hd => ?_) ?_
      · have hG : x 5 = .bool true := hd 5 (by kernel_rfl)
        simp [Region.wanted, yielded, hG]
      · have d0 := (ZaX1.out.below hb ZaX1.out.lt).at_ 0 _ rfl
        have d1 := (ZaX1.out.below hb ZaX1.out.lt).at_ 1 _ rfl
        have d2 := (ZaX1.out.below hb ZaX1.out.lt).at_ 2 _ rfl
        have d3 := (ZaX1.out.below hb ZaX1.out.lt).at_ 3 _ rfl
        have d4 := (ZaX1.out.below hb ZaX1.out.lt).at_ 4 _ rfl
        have d5 := (ZaX1.out.below hb ZaX1.out.lt).at_ 5 _ rfl
        first | (go_simp; done) | (go_simp; rfl)
      refine StepsAt.consG 9 (fun _ _ _ h hb => h) (fun _ _ => rfl) rfl (fun x wxa hd => ?_) (fun x wxa hb hd K hK => ?_) ?_
      · have hG : x 5 = .bool true := hd 5 (by kernel_rfl)
        simp [Region.wanted, yielded, hG]
      · have h8 : Hid (x 8 = .agg (rpc r (.slice An (pN r).length cn)).toArray) := hd 8 (by kernel_rfl)
        go_simp
        refine calls_args (args2 := #[.agg (rpc r (.slice An (pN r).length cn)).toArray]) (by rw [h8.out]) ?_
        refine (toldO_any r An _ cn _).mono ?_
        rintro e w99 ⟨rfl, hb99⟩
        exact hK.out _ _ hb99 rfl
      refine StepsAt.consG 10 (fun _ _ _ h hb => h) (fun _ _ => rfl) rfl (fun x wxa hd => ?_) (fun x wxa hb hd K hK => ?_) ?_
      · have hG : x 5 = .bool true := hd 5 (by kernel_rfl)
        simp [Region.wanted, yielded, hG]
      · have h7 : Hid (x 7 = .agg (rpc r (.slice A9n (pN r).length c9n)).toArray) := hd 7 (by kernel_rfl)
        have h9 : Hid (x 9 = .agg (rpc r (.slice An (pN r).length cn)).toArray) := hd 9 (by kernel_rfl)
        go_simp
        refine calls_args (args2 := #[.agg (rpc r (.slice A9n (pN r).length c9n)).toArray, .agg (rpc r (.slice An (pN r).length cn)).toArray]) (by rw [h7.out, h9.out]) ?_
        refine (rfSameIs r (.slice A9n (pN r).length c9n) (.slice An (pN r).length cn) _ ((ZaNXa2.out.below hb).more hb.size) ((ZaHS.out.below hb).more hb.size) (by have := HCN.out; omega)).mono ?_
        rintro e w99 ⟨rfl, hb99⟩
        exact hK.out _ _ hb99 rfl
      refine StepsAt.val 11 (.bool true) rfl (fun _ _ => rfl) rfl rfl (fun x wxa hb hd => ?_) ?_
      · have h5 : x 5 = .bool true := hd 5 (by kernel_rfl)
        have h10 : x 10 = .bool true := hd 10 (by kernel_rfl)
        rw [h5, h10]
        first | (go_simp; done) | (go_simp; rfl)
      refine StepsAt.val 12 (.bool true) rfl (fun _ _ => rfl) rfl rfl (fun x wxa hb hd => ?_) ?_
      · have h11 : x 11 = .bool true := hd 11 (by kernel_rfl)
        rw [h11]
        first | (go_simp; done) | (go_simp; rfl)
      refine StepsAt.valG 13 (.slice A9 n c9) rfl (fun _ _ => rfl) rfl (fun x wxa hd => ?_) (fun x wxa hb hd => ?_) ?_
      · have hG : x 12 = .bool true := hd 12 (by kernel_rfl)
        simp [Region.wanted, yielded, hG]
      · first | (go_simp; done) | (go_simp; rfl)
      refine StepsAt.valG 14 (txt l) rfl (fun _ _ => rfl) rfl (fun x wxa hd => ?_) (fun x wxa hb hd => ?_) ?_
      · have hG : x 12 = .bool true := hd 12 (by kernel_rfl)
        simp [Region.wanted, yielded, hG]
      · have h13 : x 13 = .slice A9 n c9 := hd 13 (by kernel_rfl)
        have cc := run_string_rd 22 9 5 Try.underlying22 Try.underlying5 Try.underlying9 (ZaRXa2.out.below hb)
        rw [h13]
        first | (go_simp; done) | (go_simp; rfl)
      refine StepsAt.valG 15 (.slice A n c) rfl (fun _ _ => rfl) rfl (fun x wxa hd => ?_) (fun x wxa hb hd => ?_) ?_
      · have hG : x 12 = .bool true := hd 12 (by kernel_rfl)
        simp [Region.wanted, yielded, hG]
      · first | (go_simp; done) | (go_simp; rfl)
      refine StepsAt.valG 16 (txt l) rfl (fun _ _ => rfl) rfl (fun x wxa hd => ?_) (fun x wxa hb hd => ?_) ?_
      · have hG : x 12 = .bool true := hd 12 (by kernel_rfl)
        simp [Region.wanted, yielded, hG]
      · have h15 : x 15 = .slice A n c := hd 15 (by kernel_rfl)
        have cc := run_string_rd 22 9 5 Try.underlying22 Try.underlying5 Try.underlying9 (ZaHR.out.below hb)
        rw [h15]
        first | (go_simp; done) | (go_simp; rfl)
      refine StepsAt.valG 17 (.bool true) rfl (fun _ _ => rfl) rfl (fun x wxa hd => ?_) (fun x wxa hb hd => ?_) ?_
      · have hG : x 12 = .bool true := hd 12 (by kernel_rfl)
        simp [Region.wanted, yielded, hG]
      · have h14 : x 14 = txt l := hd 14 (by kernel_rfl)
        have h16 : x 16 = txt l := hd 16 (by kernel_rfl)
        rw [h14, h16]
        first | (go_simp; done) | (go_simp; rfl) | (go_simp; simp)
      refine StepsAt.val 18 (.bool true) rfl (fun _ _ => rfl) rfl rfl (fun x wxa hb hd => ?_) ?_
      · have h12 : x 12 = .bool true := hd 12 (by kernel_rfl)
        have h17 : x 17 = .bool true := hd 17 (by kernel_rfl)
        rw [h12, h17]
        first | (go_simp; done) | (go_simp; rfl)
      refine StepsAt.val 19 (.bool true) rfl (fun _ _ => rfl) rfl rfl (fun x wxa hb hd => ?_) ?_
      · have h18 : x 18 = .bool true := hd 18 (by kernel_rfl)
        rw [h18]
        first | (go_simp; done) | (go_simp; rfl)
      exact StepsAt.done
    case fin =>
      intro x wxa hb hd
      have hx0 : x 0 = .bool true := hd 0 (by omega)
      have hx1 : x 1 = .bool true := hd 1 (by omega)
      have hx2 : x 2 = .int IntKind.i64 0 := hd 2 (by omega)
      have hx3 : x 3 = .bool true := hd 3 (by omega)
      have hx4 : x 4 = .bool true := hd 4 (by omega)
      have hx5 : x 5 = .bool true := hd 5 (by omega)
      have hx6 : x 6 = .agg (rpc r (.slice A9n (pN r).length c9n)).toArray := hd 6 (by omega)
      have hx7 : x 7 = .agg (rpc r (.slice A9n (pN r).length c9n)).toArray := hd 7 (by omega)
      have hx8 : x 8 = .agg (rpc r (.slice An (pN r).length cn)).toArray := hd 8 (by omega)
      have hx9 : x 9 = .agg (rpc r (.slice An (pN r).length cn)).toArray := hd 9 (by omega)
      have hx10 : x 10 = .bool true := hd 10 (by omega)
      have hx11 : x 11 = .bool true := hd 11 (by omega)
      have hx12 : x 12 = .bool true := hd 12 (by omega)
      have hx13 : x 13 = .slice A9 n c9 := hd 13 (by omega)
      have hx14 : x 14 = txt l := hd 14 (by omega)
      have hx15 : x 15 = .slice A n c := hd 15 (by omega)
      have hx16 : x 16 = txt l := hd 16 (by omega)
      have hx17 : x 17 = .bool true := hd 17 (by omega)
      have hx18 : x 18 = .bool true := hd 18 (by omega)
      have hx19 : x 19 = .bool true := hd 19 (by omega)
      refine AnyTill.any (S := fun _ => True) (m := 20) _ _ _ _ ?_
      refine AnyTill.done (by kernel_rfl) ?_
      refine NoPanic.normal ?_
      try dsimp only
      rw [hx0, hx1, hx2, hx3, hx4, hx5, hx6, hx7, hx8, hx9, hx10, hx11, hx12, hx13, hx14, hx15, hx16, hx17, hx18, hx19]
      have EFa := Lib.hid hb
      clear hx0 hx1 hx2 hx3 hx4 hx5 hx6 hx7 hx8 hx9 hx10 hx11 hx12 hx13 hx14 hx15 hx16 hx17 hx18 hx19 hd hb
      have P5_w := Lib.hid (P4_w.out.trans (EFa.out.mono P4_w.out.size))
      clear P4_w
      have P5_y0 := Lib.hid (P4_y0.out.trans (EFa.out.mono P4_y0.out.size))
      clear P4_y0
      have P5_y1 := Lib.hid (P4_y1.out.trans (EFa.out.mono P4_y1.out.size))
      clear P4_y1
      have P5_W1 := Lib.hid (P4_W1.out.trans (EFa.out.mono P4_W1.out.size))
      clear P4_W1
      have P5_W2 := Lib.hid (P4_W2.out.trans (EFa.out.mono P4_W2.out.size))
      clear P4_W2
      have P5_W3 := Lib.hid (E4.out.trans (EFa.out.mono E4.out.size))
      go_wp2
      go_ret
      exact ⟨rfl, P5_w.out⟩
  | true =>
    have HTO := Lib.hid (back_takeO o l hM FO.out)
    have HLO := Lib.hid (may_sized hM)
    clear hM
    have c_X0 := (X0.out.below P2_y0.out X0.out.lt).at_ 0 _ rfl
    have c_X0_1 := (X0.out.below P2_y0.out X0.out.lt).at_ 1 _ rfl
    have c_X0_2 := (X0.out.below P2_y0.out X0.out.lt).at_ 2 _ rfl
    have c_X0_3 := (X0.out.below P2_y0.out X0.out.lt).at_ 3 _ rfl
    have c_X0_4 := (X0.out.below P2_y0.out X0.out.lt).at_ 4 _ rfl
    have c_X0_5 := (X0.out.below P2_y0.out X0.out.lt).at_ 5 _ rfl
    have c_X0_6 := (X0.out.below P2_y0.out X0.out.lt).at_ 6 _ rfl
    have c_X0_7 := (X0.out.below P2_y0.out X0.out.lt).at_ 7 _ rfl
    go_wp2_with fail
    refine (orPut_any (.slice none 0 0) [] o W2 (Rd.nil _ _) FO.out (by have h1 := HLO.out; simp; omega)).mono ?_
    rintro e wa3 ⟨va3, rfl, hown, hb⟩
    clear c_X0 c_X0_1 c_X0_2 c_X0_3 c_X0_4 c_X0_5 c_X0_6 c_X0_7
    have HO9 := Lib.hid hown
    have HB9 := Lib.hid hb
    have HS9 := Lib.hid hb.size
    clear hown hb
    have HR9 := Lib.hid (((HR.out.below P2_w.out).more P2_w.out.size).below HB9.out)
    go_wp2_with (at_builtin; refine wpList_app rfl _ _ 22 rfl 5 i0 Try.underlying22 hI hz0 hz1 hz2 W2.heap.size W2.heap.size _ _ ([] ++ encO o) l rfl HO9.out rfl HR9.out ?c1 HS9.out ?_)
    case c1 => have h1 := encO_len o; have h2 := HLO.out; have h4 := HL.out; simp only [List.nil_append]; omega
    intro vb3 W3 hown hb5
    have RA := Lib.hid hown.rd
    have E3 := Lib.hid (HB9.out.trans hb5)
    clear hown hb5 HO9 HB9 HS9 HR9
    have P3_w := Lib.hid (P2_w.out.trans (E3.out.mono P2_w.out.size))
    clear P2_w
    have P3_y0 := Lib.hid (P2_y0.out.trans (E3.out.mono P2_y0.out.size))
    clear P2_y0
    have P3_y1 := Lib.hid (P2_y1.out.trans (E3.out.mono P2_y1.out.size))
    clear P2_y1
    have P3_W1 := Lib.hid (E2.out.trans (E3.out.mono E2.out.size))
    go_wp2_with fail
    refine (orTake_any vb3 (([] ++ encO o) ++ l) W3 RA.out (by rw [List.length_append]; have h1 := encO_len o; have h2 := HLO.out; have h4 := HL.out; simp only [List.nil_append]; omega)).mono ?_
    rintro e va4 ⟨x8, rfl, hrd, hb⟩
    rw [HTO.out] at hrd ⊢
    dsimp only at hrd ⊢
    obtain ⟨A8, c8, hv8, -, -⟩ := hrd.shape
    change x8 = .slice A8 l.length c8 at hv8
    subst hv8
    rw [HN.out] at hrd ⊢
    go_wp2_with (refine wpList_alloc_blk rfl 24 rfl (orc or0) zeroOrP ?_)
    intro vb4 a1 a2 a3
    obtain ⟨vg4, hg⟩ : ∃ g, va4.heap.size = g := ⟨_, rfl⟩
    have AA := Lib.hid a1
    have EB := Lib.hid (hb.trans (a3.mono hb.size))
    have A3 := Lib.hid a3
    have hbg : W3.heap.size ≤ vg4 := by have := hb.size; omega
    have hgs : vg4 ≤ vb4.heap.size := by omega
    have HG := Lib.hid hg
    have RR0 := Lib.hid hrd
    rw [hg] at AA A3 RR0 ⊢
    clear a1 a2 a3 hb hg hrd
    go_wp2_with (refine wpList_store_to rfl 24 _ _ rfl vg4 (orc o) (orc or0) 24 rfl rfl AA.out szOrP rfl (orc_all _) ?_)
    intro W4 e1 e2 e3 e4
    have X8 := Lib.hid e1
    have E4 := Lib.hid (EB.out.trans (e3.mono hbg))
    have RX8 := Lib.hid (((RR0.out.below A3.out).below e3).more (show vg4 ≤ W4.heap.size by omega))
    clear e1 e2 e3 e4 AA EB A3 hbg hgs HG RR0
    have P4_w := Lib.hid (P3_w.out.trans (E4.out.mono P3_w.out.size))
    clear P3_w
    have P4_y0 := Lib.hid (P3_y0.out.trans (E4.out.mono P3_y0.out.size))
    clear P3_y0
    have P4_y1 := Lib.hid (P3_y1.out.trans (E4.out.mono P3_y1.out.size))
    clear P3_y1
    have P4_W1 := Lib.hid (P3_W1.out.trans (E4.out.mono P3_W1.out.size))
    clear P3_W1
    have P4_W2 := Lib.hid (E3.out.trans (E4.out.mono E3.out.size))
    have c_X0 := (X0.out.below P4_y0.out X0.out.lt).at_ 0 _ rfl
    have c_X0_1 := (X0.out.below P4_y0.out X0.out.lt).at_ 1 _ rfl
    have c_X0_2 := (X0.out.below P4_y0.out X0.out.lt).at_ 2 _ rfl
    have c_X0_3 := (X0.out.below P4_y0.out X0.out.lt).at_ 3 _ rfl
    have c_X0_4 := (X0.out.below P4_y0.out X0.out.lt).at_ 4 _ rfl
    have c_X0_5 := (X0.out.below P4_y0.out X0.out.lt).at_ 5 _ rfl
    have c_X0_6 := (X0.out.below P4_y0.out X0.out.lt).at_ 6 _ rfl
    have c_X0_7 := (X0.out.below P4_y0.out X0.out.lt).at_ 7 _ rfl
    have c_X8 := X8.out.at_ 0 _ rfl
    have c_X8_1 := X8.out.at_ 1 _ rfl
    have c_X8_2 := X8.out.at_ 2 _ rfl
    have c_X8_3 := X8.out.at_ 3 _ rfl
    have c_X8_4 := X8.out.at_ 4 _ rfl
    have c_X8_5 := X8.out.at_ 5 _ rfl
    have c_X8_6 := X8.out.at_ 6 _ rfl
    have c_X8_7 := X8.out.at_ 7 _ rfl
    have cv_RX8 := run_string_rd 22 9 5 Try.underlying22 Try.underlying5 Try.underlying9 RX8.out
    have cv_HR := run_string_rd 22 9 5 Try.underlying22 Try.underlying5 Try.underlying9 ((HR.out.below P4_w.out).more P4_w.out.size)
    have hne := run_neqOrP o o
    rw [decide_eq_true rfl] at hne
    have n4 : ((⟨l.toArray⟩ : ByteArray).toList == (⟨l.toArray⟩ : ByteArray).toList) = true := beq_self_eq_true _
    have n5 : ((⟨l.toArray⟩ : ByteArray).toList != (⟨l.toArray⟩ : ByteArray).toList) = false := by simp
    have c_X1 := (X1.out.below P4_y1.out X1.out.lt).at_ 0 _ rfl
    have c_X1_1 := (X1.out.below P4_y1.out X1.out.lt).at_ 1 _ rfl
    have c_X1_2 := (X1.out.below P4_y1.out X1.out.lt).at_ 2 _ rfl
    have c_X1_3 := (X1.out.below P4_y1.out X1.out.lt).at_ 3 _ rfl
    have c_X1_4 := (X1.out.below P4_y1.out X1.out.lt).at_ 4 _ rfl
    have c_X1_5 := (X1.out.below P4_y1.out X1.out.lt).at_ 5 _ rfl
    go_wp2_with fail
    refine (orPutR_any (.slice none 0 0) [] r (.slice An (pN r).length cn) W4 (Rd.nil _ _) ((HS.out.below P4_w.out).more P4_w.out.size) FR.out (by have h2 := HLS.out; have h3 := encs_sum (pN r); simp; omega) (by have := HCN.out; omega)).mono ?_
    rintro e wa5 ⟨va5, rfl, hown, hb⟩
    clear c_X0 c_X0_1 c_X0_2 c_X0_3 c_X0_4 c_X0_5 c_X0_6 c_X0_7 c_X8 c_X8_1 c_X8_2 c_X8_3 c_X8_4 c_X8_5 c_X8_6 c_X8_7 cv_RX8 cv_HR hne n4 n5 c_X1 c_X1_1 c_X1_2 c_X1_3 c_X1_4 c_X1_5
    have HO9 := Lib.hid hown
    have HB9 := Lib.hid hb
    have HS9 := Lib.hid hb.size
    clear hown hb
    have HR9 := Lib.hid (((HR.out.below P4_w.out).more P4_w.out.size).below HB9.out)
    go_wp2_with (at_builtin; refine wpList_app rfl _ _ 22 rfl 5 i0 Try.underlying22 hI hz0 hz1 hz2 W4.heap.size W4.heap.size _ _ ([] ++ encR r) l rfl HO9.out rfl HR9.out ?c1 HS9.out ?_)
    case c1 => have h1 := encR_len r; have h2 := HLS.out; have h3 := encs_sum (pN r); have h4 := HL.out; simp only [List.nil_append]; omega
    intro vb5 W5 hown hb5
    have RB := Lib.hid hown.rd
    have E5 := Lib.hid (HB9.out.trans hb5)
    clear hown hb5 HO9 HB9 HS9 HR9
    have P5_w := Lib.hid (P4_w.out.trans (E5.out.mono P4_w.out.size))
    clear P4_w
    have P5_y0 := Lib.hid (P4_y0.out.trans (E5.out.mono P4_y0.out.size))
    clear P4_y0
    have P5_y1 := Lib.hid (P4_y1.out.trans (E5.out.mono P4_y1.out.size))
    clear P4_y1
    have P5_W1 := Lib.hid (P4_W1.out.trans (E5.out.mono P4_W1.out.size))
    clear P4_W1
    have P5_W2 := Lib.hid (P4_W2.out.trans (E5.out.mono P4_W2.out.size))
    clear P4_W2
    have P5_W3 := Lib.hid (E4.out.trans (E5.out.mono E4.out.size))
    have HTR := Lib.hid (back_takeR r l FR.out HLS.out HCN.out)
    by_cases hE : pE r < 0
    case pos =>
      rw [if_pos (Or.inl hE)] at HTR
      go_wp2_with fail
      refine (orTakeR_any vb5 (([] ++ encR r) ++ l) W5 RB.out (by rw [List.length_append]; have h1 := encR_len r; have h2 := HLS.out; have h3 := encs_sum (pN r); have h4 := HL.out; simp only [List.nil_append]; omega)).mono ?_
      rintro e va6 ⟨n9, x9, rfl, hnn, hrd, hb⟩
      rw [HTR.out] at hrd hnn ⊢
      dsimp only at hrd hnn ⊢
      obtain ⟨A9n, c9n, hv9n, -, -⟩ := hnn.shape
      change n9 = .slice A9n 0 c9n at hv9n
      subst hv9n
      obtain ⟨A9, c9, hv9, -, -⟩ := hrd.shape
      change x9 = .slice A9 0 c9 at hv9
      subst hv9
      go_wp2_with (refine wpList_alloc_blk rfl 28 rfl (rpc rp0 (.slice none 0 0)) zeroRpP ?_)
      intro vb6 a1 a2 a3
      obtain ⟨vg6, hg⟩ : ∃ g, va6.heap.size = g := ⟨_, rfl⟩
      have AA := Lib.hid a1
      have EB := Lib.hid (hb.trans (a3.mono hb.size))
      have A3 := Lib.hid a3
      have hbg : W5.heap.size ≤ vg6 := by have := hb.size; omega
      have hgs : vg6 ≤ vb6.heap.size := by omega
      have HG := Lib.hid hg
      have RR0 := Lib.hid hrd
      have RR1 := Lib.hid hnn
      rw [hg] at AA A3 RR0 RR1 ⊢
      clear a1 a2 a3 hb hg hrd hnn
      go_wp2_with (refine wpList_store_to rfl 28 _ _ rfl vg6 (rpc rp0 (.slice A9n 0 c9n)) (rpc rp0 (.slice none 0 0)) 28 rfl rfl AA.out szRpP rfl (rpc_all _ _ _ _) ?_)
      intro W6 e1 e2 e3 e4
      have Xb0 := Lib.hid e1
      have E6 := Lib.hid (EB.out.trans (e3.mono hbg))
      have RXb0 := Lib.hid (((RR0.out.below A3.out).below e3).more (show vg6 ≤ W6.heap.size by omega))
      have NXb0 := Lib.hid (((RR1.out.below A3.out).below e3).more (show vg6 ≤ W6.heap.size by omega))
      clear e1 e2 e3 e4 AA EB A3 hbg hgs HG RR0 RR1
      have P6_w := Lib.hid (P5_w.out.trans (E6.out.mono P5_w.out.size))
      clear P5_w
      have P6_y0 := Lib.hid (P5_y0.out.trans (E6.out.mono P5_y0.out.size))
      clear P5_y0
      have P6_y1 := Lib.hid (P5_y1.out.trans (E6.out.mono P5_y1.out.size))
      clear P5_y1
      have P6_W1 := Lib.hid (P5_W1.out.trans (E6.out.mono P5_W1.out.size))
      clear P5_W1
      have P6_W2 := Lib.hid (P5_W2.out.trans (E6.out.mono P5_W2.out.size))
      clear P5_W2
      have P6_W3 := Lib.hid (P5_W3.out.trans (E6.out.mono P5_W3.out.size))
      clear P5_W3
      have P6_W4 := Lib.hid (E5.out.trans (E6.out.mono E5.out.size))
      have c_X1 := (X1.out.below P6_y1.out X1.out.lt).at_ 0 _ rfl
      have c_X1_1 := (X1.out.below P6_y1.out X1.out.lt).at_ 1 _ rfl
      have c_X1_2 := (X1.out.below P6_y1.out X1.out.lt).at_ 2 _ rfl
      have c_X1_3 := (X1.out.below P6_y1.out X1.out.lt).at_ 3 _ rfl
      have c_X1_4 := (X1.out.below P6_y1.out X1.out.lt).at_ 4 _ rfl
      have c_X1_5 := (X1.out.below P6_y1.out X1.out.lt).at_ 5 _ rfl
      go_wp2_with fail
      refine (alive12 W6).mono ?_
      rintro e W7 ⟨rfl, hb⟩
      have E7 := Lib.hid hb
      clear hb c_X1 c_X1_1 c_X1_2 c_X1_3 c_X1_4 c_X1_5
      have P7_w := Lib.hid (P6_w.out.trans (E7.out.mono P6_w.out.size))
      clear P6_w
      have P7_y0 := Lib.hid (P6_y0.out.trans (E7.out.mono P6_y0.out.size))
      clear P6_y0
      have P7_y1 := Lib.hid (P6_y1.out.trans (E7.out.mono P6_y1.out.size))
      clear P6_y1
      have P7_W1 := Lib.hid (P6_W1.out.trans (E7.out.mono P6_W1.out.size))
      clear P6_W1
      have P7_W2 := Lib.hid (P6_W2.out.trans (E7.out.mono P6_W2.out.size))
      clear P6_W2
      have P7_W3 := Lib.hid (P6_W3.out.trans (E7.out.mono P6_W3.out.size))
      clear P6_W3
      have P7_W4 := Lib.hid (P6_W4.out.trans (E7.out.mono P6_W4.out.size))
      clear P6_W4
      have P7_W5 := Lib.hid (E6.out.trans (E7.out.mono E6.out.size))
      go_wp2
      go_ret
      exact ⟨rfl, P7_w.out⟩
    have hEa := hE
    clear hE
    by_cases hE : (16 : Int) < pE r
    case pos =>
      rw [if_pos (Or.inr hE)] at HTR
      go_wp2_with fail
      refine (orTakeR_any vb5 (([] ++ encR r) ++ l) W5 RB.out (by rw [List.length_append]; have h1 := encR_len r; have h2 := HLS.out; have h3 := encs_sum (pN r); have h4 := HL.out; simp only [List.nil_append]; omega)).mono ?_
      rintro e va6 ⟨n9, x9, rfl, hnn, hrd, hb⟩
      rw [HTR.out] at hrd hnn ⊢
      dsimp only at hrd hnn ⊢
      obtain ⟨A9n, c9n, hv9n, -, -⟩ := hnn.shape
      change n9 = .slice A9n 0 c9n at hv9n
      subst hv9n
      obtain ⟨A9, c9, hv9, -, -⟩ := hrd.shape
      change x9 = .slice A9 0 c9 at hv9
      subst hv9
      go_wp2_with (refine wpList_alloc_blk rfl 28 rfl (rpc rp0 (.slice none 0 0)) zeroRpP ?_)
      intro vb6 a1 a2 a3
      obtain ⟨vg6, hg⟩ : ∃ g, va6.heap.size = g := ⟨_, rfl⟩
      have AA := Lib.hid a1
      have EB := Lib.hid (hb.trans (a3.mono hb.size))
      have A3 := Lib.hid a3
      have hbg : W5.heap.size ≤ vg6 := by have := hb.size; omega
      have hgs : vg6 ≤ vb6.heap.size := by omega
      have HG := Lib.hid hg
      have RR0 := Lib.hid hrd
      have RR1 := Lib.hid hnn
      rw [hg] at AA A3 RR0 RR1 ⊢
      clear a1 a2 a3 hb hg hrd hnn
      go_wp2_with (refine wpList_store_to rfl 28 _ _ rfl vg6 (rpc rp0 (.slice A9n 0 c9n)) (rpc rp0 (.slice none 0 0)) 28 rfl rfl AA.out szRpP rfl (rpc_all _ _ _ _) ?_)
      intro W6 e1 e2 e3 e4
      have Xb1 := Lib.hid e1
      have E6 := Lib.hid (EB.out.trans (e3.mono hbg))
      have RXb1 := Lib.hid (((RR0.out.below A3.out).below e3).more (show vg6 ≤ W6.heap.size by omega))
      have NXb1 := Lib.hid (((RR1.out.below A3.out).below e3).more (show vg6 ≤ W6.heap.size by omega))
      clear e1 e2 e3 e4 AA EB A3 hbg hgs HG RR0 RR1
      have P6_w := Lib.hid (P5_w.out.trans (E6.out.mono P5_w.out.size))
      clear P5_w
      have P6_y0 := Lib.hid (P5_y0.out.trans (E6.out.mono P5_y0.out.size))
      clear P5_y0
      have P6_y1 := Lib.hid (P5_y1.out.trans (E6.out.mono P5_y1.out.size))
      clear P5_y1
      have P6_W1 := Lib.hid (P5_W1.out.trans (E6.out.mono P5_W1.out.size))
      clear P5_W1
      have P6_W2 := Lib.hid (P5_W2.out.trans (E6.out.mono P5_W2.out.size))
      clear P5_W2
      have P6_W3 := Lib.hid (P5_W3.out.trans (E6.out.mono P5_W3.out.size))
      clear P5_W3
      have P6_W4 := Lib.hid (E5.out.trans (E6.out.mono E5.out.size))
      have c_X1 := (X1.out.below P6_y1.out X1.out.lt).at_ 0 _ rfl
      have c_X1_1 := (X1.out.below P6_y1.out X1.out.lt).at_ 1 _ rfl
      have c_X1_2 := (X1.out.below P6_y1.out X1.out.lt).at_ 2 _ rfl
      have c_X1_3 := (X1.out.below P6_y1.out X1.out.lt).at_ 3 _ rfl
      have c_X1_4 := (X1.out.below P6_y1.out X1.out.lt).at_ 4 _ rfl
      have c_X1_5 := (X1.out.below P6_y1.out X1.out.lt).at_ 5 _ rfl
      go_wp2_with fail
      refine (alive12 W6).mono ?_
      rintro e W7 ⟨rfl, hb⟩
      have E7 := Lib.hid hb
      clear hb c_X1 c_X1_1 c_X1_2 c_X1_3 c_X1_4 c_X1_5
      have P7_w := Lib.hid (P6_w.out.trans (E7.out.mono P6_w.out.size))
      clear P6_w
      have P7_y0 := Lib.hid (P6_y0.out.trans (E7.out.mono P6_y0.out.size))
      clear P6_y0
      have P7_y1 := Lib.hid (P6_y1.out.trans (E7.out.mono P6_y1.out.size))
      clear P6_y1
      have P7_W1 := Lib.hid (P6_W1.out.trans (E7.out.mono P6_W1.out.size))
      clear P6_W1
      have P7_W2 := Lib.hid (P6_W2.out.trans (E7.out.mono P6_W2.out.size))
      clear P6_W2
      have P7_W3 := Lib.hid (P6_W3.out.trans (E7.out.mono P6_W3.out.size))
      clear P6_W3
      have P7_W4 := Lib.hid (P6_W4.out.trans (E7.out.mono P6_W4.out.size))
      clear P6_W4
      have P7_W5 := Lib.hid (E6.out.trans (E7.out.mono E6.out.size))
      go_wp2
      go_ret
      exact ⟨rfl, P7_w.out⟩
    have hEb := hE
    clear hE
    rw [if_neg (by omega)] at HTR
    go_wp2_with fail
    refine (orTakeR_any vb5 (([] ++ encR r) ++ l) W5 RB.out (by rw [List.length_append]; have h1 := encR_len r; have h2 := HLS.out; have h3 := encs_sum (pN r); have h4 := HL.out; simp only [List.nil_append]; omega)).mono ?_
    rintro e va6 ⟨n9, x9, rfl, hnn, hrd, hb⟩
    rw [HTR.out] at hrd hnn ⊢
    dsimp only at hrd hnn ⊢
    obtain ⟨A9n, c9n, hv9n, -, -⟩ := hnn.shape
    change n9 = .slice A9n (pN r).length c9n at hv9n
    subst hv9n
    obtain ⟨A9, c9, hv9, -, -⟩ := hrd.shape
    change x9 = .slice A9 l.length c9 at hv9
    subst hv9
    rw [HN.out] at hrd ⊢
    go_wp2_with (refine wpList_alloc_blk rfl 28 rfl (rpc rp0 (.slice none 0 0)) zeroRpP ?_)
    intro vb6 a1 a2 a3
    obtain ⟨vg6, hg⟩ : ∃ g, va6.heap.size = g := ⟨_, rfl⟩
    have AA := Lib.hid a1
    have EB := Lib.hid (hb.trans (a3.mono hb.size))
    have A3 := Lib.hid a3
    have hbg : W5.heap.size ≤ vg6 := by have := hb.size; omega
    have hgs : vg6 ≤ vb6.heap.size := by omega
    have HG := Lib.hid hg
    have RR0 := Lib.hid hrd
    have RR1 := Lib.hid hnn
    rw [hg] at AA A3 RR0 RR1 ⊢
    clear a1 a2 a3 hb hg hrd hnn
    go_wp2_with (refine wpList_store_to rfl 28 _ _ rfl vg6 (rpc r (.slice A9n (pN r).length c9n)) (rpc rp0 (.slice none 0 0)) 28 rfl rfl AA.out szRpP rfl (rpc_all _ _ _ _) ?_)
    intro W6 e1 e2 e3 e4
    have Xb2 := Lib.hid e1
    have E6 := Lib.hid (EB.out.trans (e3.mono hbg))
    have RXb2 := Lib.hid (((RR0.out.below A3.out).below e3).more (show vg6 ≤ W6.heap.size by omega))
    have NXb2 := Lib.hid (((RR1.out.below A3.out).below e3).more (show vg6 ≤ W6.heap.size by omega))
    clear e1 e2 e3 e4 AA EB A3 hbg hgs HG RR0 RR1
    have P6_w := Lib.hid (P5_w.out.trans (E6.out.mono P5_w.out.size))
    clear P5_w
    have P6_y0 := Lib.hid (P5_y0.out.trans (E6.out.mono P5_y0.out.size))
    clear P5_y0
    have P6_y1 := Lib.hid (P5_y1.out.trans (E6.out.mono P5_y1.out.size))
    clear P5_y1
    have P6_W1 := Lib.hid (P5_W1.out.trans (E6.out.mono P5_W1.out.size))
    clear P5_W1
    have P6_W2 := Lib.hid (P5_W2.out.trans (E6.out.mono P5_W2.out.size))
    clear P5_W2
    have P6_W3 := Lib.hid (P5_W3.out.trans (E6.out.mono P5_W3.out.size))
    clear P5_W3
    have P6_W4 := Lib.hid (E5.out.trans (E6.out.mono E5.out.size))
    have c_X1 := (X1.out.below P6_y1.out X1.out.lt).at_ 0 _ rfl
    have c_X1_1 := (X1.out.below P6_y1.out X1.out.lt).at_ 1 _ rfl
    have c_X1_2 := (X1.out.below P6_y1.out X1.out.lt).at_ 2 _ rfl
    have c_X1_3 := (X1.out.below P6_y1.out X1.out.lt).at_ 3 _ rfl
    have c_X1_4 := (X1.out.below P6_y1.out X1.out.lt).at_ 4 _ rfl
    have c_X1_5 := (X1.out.below P6_y1.out X1.out.lt).at_ 5 _ rfl
    go_wp2
    clear c_X1 c_X1_1 c_X1_2 c_X1_3 c_X1_4 c_X1_5
    clear hEa hEb
    have ZbX1 := Lib.hid (X1.out.below P6_y1.out X1.out.lt)
    have ZbXb2 := Lib.hid Xb2.out
    have ZbRXb2 := Lib.hid RXb2.out
    have ZbNXb2 := Lib.hid NXb2.out
    have ZbHS := Lib.hid ((HS.out.below P6_w.out).more P6_w.out.size)
    have ZbHR := Lib.hid ((HR.out.below P6_w.out).more P6_w.out.size)
    refine wp_region_rely2 20 0 (fun x => ⟨#[.agg (orc o).toArray, .agg (rpc r (Value.slice An (pN r).length cn)).toArray, .slice A n c, .pointer (some { block := gb0, off := 0 }), .pointer (some { block := gb1, off := 0 }), undef, x 19, .pointer (some { block := vg4, off := 0 }), .slice A8 n c8, .int IntKind.i64 0, .pointer (some { block := vg6, off := 0 }), .slice A9 n c9, .int IntKind.i64 0, .slice A n c, .int IntKind.i64 (n : Int), .bool false, .bool false, .agg #[Value.int IntKind.i64 (pC r), Value.int IntKind.i64 (pQ r), Value.int IntKind.i64 (pE r), txt (pV r), Value.int IntKind.i64 (pR r), Value.slice An (pN r).length cn], .int IntKind.i64 (longR r), .bool (decide (1000 < longR r)), .bool (decide (1000 < longR r)), .bool (decide (1000 < longR r)), .pointer (some { block := gb1, off := 5 }), .slice An (pN r).length cn, .int IntKind.i64 ((pN r).length : Int), .bool (decide (200 < ((pN r).length : Int))), .bool (decide (1000 < longR r) || decide (200 < ((pN r).length : Int))), undef, .agg #[Value.int IntKind.i64 (oC o), Value.int IntKind.i64 (oQ o), Value.int IntKind.i64 (oK o), txt (oP o), txt (oV o), Value.int IntKind.i64 (oR o), Value.int IntKind.i64 (oS o), Value.int IntKind.i64 (oT o)], .bool true, .tuple #[Value.agg (orc o).toArray, Value.slice A8 n c8, Value.int IntKind.i64 0], .agg #[Value.int IntKind.i64 (oC o), Value.int IntKind.i64 (oQ o), Value.int IntKind.i64 (oK o), txt (oP o), txt (oV o), Value.int IntKind.i64 (oR o), Value.int IntKind.i64 (oS o), Value.int IntKind.i64 (oT o)], va3, .slice A n c, vb3, .tuple #[Value.agg (orc o).toArray, Value.slice A8 n c8, Value.int IntKind.i64 0], .agg (orc o).toArray, .slice A8 n c8, .int IntKind.i64 0, .int IntKind.i64 0, .bool false, .bool false, .agg #[Value.int IntKind.i64 (oC o), Value.int IntKind.i64 (oQ o), Value.int IntKind.i64 (oK o), txt (oP o), txt (oV o), Value.int IntKind.i64 (oR o), Value.int IntKind.i64 (oS o), Value.int IntKind.i64 (oT o)], .agg #[Value.int IntKind.i64 (oC o), Value.int IntKind.i64 (oQ o), Value.int IntKind.i64 (oK o), txt (oP o), txt (oV o), Value.int IntKind.i64 (oR o), Value.int IntKind.i64 (oS o), Value.int IntKind.i64 (oT o)], .bool false, .bool false, .bool false, .slice A8 n c8, .string { data := l.toArray }, .slice A n c, .string { data := l.toArray }, .bool false, .bool false, .tuple #[Value.agg (rpc r (Value.slice A9n (pN r).length c9n)).toArray, Value.slice A9 n c9, Value.int IntKind.i64 0], .agg #[Value.int IntKind.i64 (pC r), Value.int IntKind.i64 (pQ r), Value.int IntKind.i64 (pE r), txt (pV r), Value.int IntKind.i64 (pR r), Value.slice An (pN r).length cn], va5, .slice A n c, vb5, .tuple #[Value.agg (rpc r (Value.slice A9n (pN r).length c9n)).toArray, Value.slice A9 n c9, Value.int IntKind.i64 0], .agg (rpc r (Value.slice A9n (pN r).length c9n)).toArray, .slice A9 n c9, .int IntKind.i64 0, .pointer (some { block := gb1, off := 2 }), .int IntKind.i64 (pE r), .bool (decide (pE r < 0)), .bool (decide (pE r < 0)), .pointer (some { block := gb1, off := 2 }), .int IntKind.i64 (pE r), .bool (decide (16 < pE r)), .bool (decide (pE r < 0) || decide (16 < pE r)), undef, undef, undef, undef, undef, x 0, x 1, x 2, x 3, x 4, x 5, x 6, x 7, x 8, x 9, x 10, x 11, x 12, x 13, x 14, x 15, x 16, x 17, x 18], []⟩) (fun jj => ([(eqV (.bool true)), eqV (.bool true), eqV (.int IntKind.i64 0), eqV (.bool true), eqV (.bool true), eqV (.bool true), eqV (.agg (rpc r (.slice A9n (pN r).length c9n)).toArray), (eqV (.agg (rpc r (.slice A9n (pN r).length c9n)).toArray)), eqV (.agg (rpc r (.slice An (pN r).length cn)).toArray), (eqV (.agg (rpc r (.slice An (pN r).length cn)).toArray)), (eqV (.bool true)), eqV (.bool true), eqV (.bool true), eqV (.slice A9 n c9), eqV (txt l), eqV (.slice A n c), eqV (txt l), eqV (.bool true), eqV (.bool true), eqV (.bool true)] : List (Value → World → Prop)).getD jj (fun _ _ => True)) rfl ⟨fun kk => [_, _, _, _, _, _, _, _, _, _, _, _, _, _, _, _, _, _, _, _].getD kk undef, rfl⟩ (by kernel_rfl) (by kernel_rfl) ?steps ?fin
    case steps =>
      refine StepsAt.cons 0 (fun _ _ _ h hb => h) (fun _ _ => rfl) rfl rfl (fun x wxb hb hd K hK => ?_) ?_
      · go_simp
        refine (alive12 _).mono ?_
        rintro e w99 ⟨rfl, hb99⟩
        exact hK.out _ _ hb99 rfl
      refine StepsAt.val 1 (.bool true) rfl (fun _ _ => rfl) rfl rfl (fun x wxb hb hd => ?_) ?_
      · have h0 : x 0 = .bool true := hd 0 (by kernel_rfl)
        rw [h0]
        first | (go_simp; done) | (go_simp; rfl)
      refine StepsAt.valG 2 (.int IntKind.i64 0) rfl (fun _ _ => rfl) rfl (fun x wxb hd => ?_) (fun x wxb hb hd => ?_) ?_
      · have hG : x 1 = .bool true := hd 1 (by kernel_rfl)
        simp [Region.wanted, yielded, hG]
      · first | (go_simp; done) | (go_simp; rfl)
      refine StepsAt.valG 3 (.bool true) rfl (fun _ _ => rfl) rfl (fun x wxb hd => ?_) (fun x wxb hb hd => ?_) ?_
      · have hG : x 1 = .bool true := hd 1 (by kernel_rfl)
        simp [Region.wanted, yielded, hG]
      · have h2 : x 2 = .int IntKind.i64 0 := hd 2 (by kernel_rfl)
        rw [h2]
        first | (go_simp; done) | (go_simp; rfl) | (go_simp; simp)
      refine StepsAt.val 4 (.bool true) rfl (fun _ _ => rfl) rfl rfl (fun x wxb hb hd => ?_) ?_
      · have h1 : x 1 = .bool true := hd 1 (by kernel_rfl)
        have h3 : x 3 = .bool true := hd 3 (by kernel_rfl)
        rw [h1, h3]
        first | (go_simp; done) | (go_simp; rfl)
      refine StepsAt.val 5 (.bool true) rfl (fun _ _ => rfl) rfl rfl (fun x wxb hb hd => ?_) ?_
      · have h4 : x 4 = .bool true := hd 4 (by kernel_rfl)
        rw [h4]
        first | (go_simp; done) | (go_simp; rfl)
      refine StepsAt.valG 6 (.agg (rpc r (.slice A9n (pN r).length c9n)).toArray) rfl (fun _ _ => rfl) rfl (fun x wxb hd => ?_) (fun x wxb hb hd => ?_) ?_
      · have hG : x 5 = .bool true := hd 5 (by kernel_rfl)
        simp [Region.wanted, yielded, hG]
      · have d0 := (ZbXb2.out.below hb ZbXb2.out.lt).at_ 0 _ rfl
        have d1 := (ZbXb2.out.below hb ZbXb2.out.lt).at_ 1 _ rfl
        have d2 := (ZbXb2.out.below hb ZbXb2.out.lt).at_ 2 _ rfl
        have d3 := (ZbXb2.out.below hb ZbXb2.out.lt).at_ 3 _ rfl
        have d4 := (ZbXb2.out.below hb ZbXb2.out.lt).at_ 4 _ rfl
        have d5 := (ZbXb2.out.below hb ZbXb2.out.lt).at_ 5 _ rfl
        first | (go_simp; done) | (go_simp; rfl)
      refine StepsAt.consG 7 (fun _ _ _ h hb => h) (fun _ _ => rfl) rfl (fun x wxb hd => ?_) (fun x wxb hb hd K hK => ?_) ?_
      · have hG : x 5 = .bool true := hd 5 (by kernel_rfl)
        simp [Region.wanted, yielded, hG]
      · have h6 : Hid (x 6 = .agg (rpc r (.slice A9n (pN r).length c9n)).toArray) := hd 6 (by kernel_rfl)
        go_simp
        refine calls_args (args2 := #[.agg (rpc r (.slice A9n (pN r).length c9n)).toArray]) (by rw [h6.out]) ?_
        refine (toldO_any r A9n _ c9n _).mono ?_
        rintro e w99 ⟨rfl, hb99⟩
        exact hK.out _ _ hb99 rfl
      refine StepsAt.valG 8 (.agg (rpc r (.slice An (pN r).length cn)).toArray) rfl (fun _ _ => rfl) rfl (fun x wxb hd => ?_) (fun x wxb hb hd => ?_) ?_
      · have hG : x 5 = .bool true := hd 5 (by kernel_rfl)
        simp [Region.wanted, yielded, hG]
      · have d0 := (ZbX1.out.below hb ZbX1.out.lt).at_ 0 _ rfl
        have d1 := (ZbX1.out.below hb ZbX1.out.lt).at_ 1 _ rfl
        have d2 := (ZbX1.out.below hb ZbX1.out.lt).at_ 2 _ rfl
        have d3 := (ZbX1.out.below hb ZbX1.out.lt).at_ 3 _ rfl
        have d4 := (ZbX1.out.below hb ZbX1.out.lt).at_ 4 _ rfl
        have d5 := (ZbX1.out.below hb ZbX1.out.lt).at_ 5 _ rfl
        first | (go_simp; done) | (go_simp; rfl)
      refine StepsAt.consG 9 (fun _ _ _ h hb => h) (fun _ _ => rfl) rfl (fun x wxb hd => ?_) (fun x wxb hb hd K hK => ?_) ?_
      · have hG : x 5 = .bool true := hd 5 (by kernel_rfl)
        simp [Region.wanted, yielded, hG]
      · have h8 : Hid (x 8 = .agg (rpc r (.slice An (pN r).length cn)).toArray) := hd 8 (by kernel_rfl)
        go_simp
        refine calls_args (args2 := #[.agg (rpc r (.slice An (pN r).length cn)).toArray]) (by rw [h8.out]) ?_
        refine (toldO_any r An _ cn _).mono ?_
        rintro e w99 ⟨rfl, hb99⟩
        exact hK.out _ _ hb99 rfl
      refine StepsAt.consG 10 (fun _ _ _ h hb => h) (fun _ _ => rfl) rfl (fun x wxb hd => ?_) (fun x wxb hb hd K hK => ?_) ?_
      · have hG : x 5 = .bool true := hd 5 (by kernel_rfl)
        simp [Region.wanted, yielded, hG]
      · have h7 : Hid (x 7 = .agg (rpc r (.slice A9n (pN r).length c9n)).toArray) := hd 7 (by kernel_rfl)
        have h9 : Hid (x 9 = .agg (rpc r (.slice An (pN r).length cn)).toArray) := hd 9 (by kernel_rfl)
        go_simp
        refine calls_args (args2 := #[.agg (rpc r (.slice A9n (pN r).length c9n)).toArray, .agg (rpc r (.slice An (pN r).length cn)).toArray]) (by rw [h7.out, h9.out]) ?_
        refine (rfSameIs r (.slice A9n (pN r).length c9n) (.slice An (pN r).length cn) _ ((ZbNXb2.out.below hb).more hb.size) ((ZbHS.out.below hb).more hb.size) (by have := HCN.out; omega)).mono ?_
        rintro e w99 ⟨rfl, hb99⟩
        exact hK.out _ _ hb99 rfl
      refine StepsAt.val 11 (.bool true) rfl (fun _ _ => rfl) rfl rfl (fun x wxb hb hd => ?_) ?_
      · have h5 : x 5 = .bool true := hd 5 (by kernel_rfl)
        have h10 : x 10 = .bool true := hd 10 (by kernel_rfl)
        rw [h5, h10]
        first | (go_simp; done) | (go_simp; rfl)
      refine StepsAt.val 12 (.bool true) rfl (fun _ _ => rfl) rfl rfl (fun x wxb hb hd => ?_) ?_
      · have h11 : x 11 = .bool true := hd 11 (by kernel_rfl)
        rw [h11]
        first | (go_simp; done) | (go_simp; rfl)
      refine StepsAt.valG 13 (.slice A9 n c9) rfl (fun _ _ => rfl) rfl (fun x wxb hd => ?_) (fun x wxb hb hd => ?_) ?_
      · have hG : x 12 = .bool true := hd 12 (by kernel_rfl)
        simp [Region.wanted, yielded, hG]
      · first | (go_simp; done) | (go_simp; rfl)
      refine StepsAt.valG 14 (txt l) rfl (fun _ _ => rfl) rfl (fun x wxb hd => ?_) (fun x wxb hb hd => ?_) ?_
      · have hG : x 12 = .bool true := hd 12 (by kernel_rfl)
        simp [Region.wanted, yielded, hG]
      · have h13 : x 13 = .slice A9 n c9 := hd 13 (by kernel_rfl)
        have cc := run_string_rd 22 9 5 Try.underlying22 Try.underlying5 Try.underlying9 (ZbRXb2.out.below hb)
        rw [h13]
        first | (go_simp; done) | (go_simp; rfl)
      refine StepsAt.valG 15 (.slice A n c) rfl (fun _ _ => rfl) rfl (fun x wxb hd => ?_) (fun x wxb hb hd => ?_) ?_
      · have hG : x 12 = .bool true := hd 12 (by kernel_rfl)
        simp [Region.wanted, yielded, hG]
      · first | (go_simp; done) | (go_simp; rfl)
      refine StepsAt.valG 16 (txt l) rfl (fun _ _ => rfl) rfl (fun x wxb hd => ?_) (fun x wxb hb hd => ?_) ?_
      · have hG : x 12 = .bool true := hd 12 (by kernel_rfl)
        simp [Region.wanted, yielded, hG]
      · have h15 : x 15 = .slice A n c := hd 15 (by kernel_rfl)
        have cc := run_string_rd 22 9 5 Try.underlying22 Try.underlying5 Try.underlying9 (ZbHR.out.below hb)
        rw [h15]
        first | (go_simp; done) | (go_simp; rfl)
      refine StepsAt.valG 17 (.bool true) rfl (fun _ _ => rfl) rfl (fun x wxb hd => ?_) (fun x wxb hb hd => ?_) ?_
      · have hG : x 12 = .bool true := hd 12 (by kernel_rfl)
        simp [Region.wanted, yielded, hG]
      · have h14 : x 14 = txt l := hd 14 (by kernel_rfl)
        have h16 : x 16 = txt l := hd 16 (by kernel_rfl)
        rw [h14, h16]
        first | (go_simp; done) | (go_simp; rfl) | (go_simp; simp)
      refine StepsAt.val 18 (.bool true) rfl (fun _ _ => rfl) rfl rfl (fun x wxb hb hd => ?_) ?_
      · have h12 : x 12 = .bool true := hd 12 (by kernel_rfl)
        have h17 : x 17 = .bool true := hd 17 (by kernel_rfl)
        rw [h12, h17]
        first | (go_simp; done) | (go_simp; rfl)
      refine StepsAt.val 19 (.bool true) rfl (fun _ _ => rfl) rfl rfl (fun x wxb hb hd => ?_) ?_
      · have h18 : x 18 = .bool true := hd 18 (by kernel_rfl)
        rw [h18]
        first | (go_simp; done) | (go_simp; rfl)
      exact StepsAt.done
    case fin =>
      intro x wxb hb hd
      have hx0 : x 0 = .bool true := hd 0 (by omega)
      have hx1 : x 1 = .bool true := hd 1 (by omega)
      have hx2 : x 2 = .int IntKind.i64 0 := hd 2 (by omega)
      have hx3 : x 3 = .bool true := hd 3 (by omega)
      have hx4 : x 4 = .bool true := hd 4 (by omega)
      have hx5 : x 5 = .bool true := hd 5 (by omega)
      have hx6 : x 6 = .agg (rpc r (.slice A9n (pN r).length c9n)).toArray := hd 6 (by omega)
      have hx7 : x 7 = .agg (rpc r (.slice A9n (pN r).length c9n)).toArray := hd 7 (by omega)
      have hx8 : x 8 = .agg (rpc r (.slice An (pN r).length cn)).toArray := hd 8 (by omega)
      have hx9 : x 9 = .agg (rpc r (.slice An (pN r).length cn)).toArray := hd 9 (by omega)
      have hx10 : x 10 = .bool true := hd 10 (by omega)
      have hx11 : x 11 = .bool true := hd 11 (by omega)
      have hx12 : x 12 = .bool true := hd 12 (by omega)
      have hx13 : x 13 = .slice A9 n c9 := hd 13 (by omega)
      have hx14 : x 14 = txt l := hd 14 (by omega)
      have hx15 : x 15 = .slice A n c := hd 15 (by omega)
      have hx16 : x 16 = txt l := hd 16 (by omega)
      have hx17 : x 17 = .bool true := hd 17 (by omega)
      have hx18 : x 18 = .bool true := hd 18 (by omega)
      have hx19 : x 19 = .bool true := hd 19 (by omega)
      refine AnyTill.any (S := fun _ => True) (m := 20) _ _ _ _ ?_
      refine AnyTill.done (by kernel_rfl) ?_
      refine NoPanic.normal ?_
      try dsimp only
      rw [hx0, hx1, hx2, hx3, hx4, hx5, hx6, hx7, hx8, hx9, hx10, hx11, hx12, hx13, hx14, hx15, hx16, hx17, hx18, hx19]
      have EFb := Lib.hid hb
      clear hx0 hx1 hx2 hx3 hx4 hx5 hx6 hx7 hx8 hx9 hx10 hx11 hx12 hx13 hx14 hx15 hx16 hx17 hx18 hx19 hd hb
      have P7_w := Lib.hid (P6_w.out.trans (EFb.out.mono P6_w.out.size))
      clear P6_w
      have P7_y0 := Lib.hid (P6_y0.out.trans (EFb.out.mono P6_y0.out.size))
      clear P6_y0
      have P7_y1 := Lib.hid (P6_y1.out.trans (EFb.out.mono P6_y1.out.size))
      clear P6_y1
      have P7_W1 := Lib.hid (P6_W1.out.trans (EFb.out.mono P6_W1.out.size))
      clear P6_W1
      have P7_W2 := Lib.hid (P6_W2.out.trans (EFb.out.mono P6_W2.out.size))
      clear P6_W2
      have P7_W3 := Lib.hid (P6_W3.out.trans (EFb.out.mono P6_W3.out.size))
      clear P6_W3
      have P7_W4 := Lib.hid (P6_W4.out.trans (EFb.out.mono P6_W4.out.size))
      clear P6_W4
      have P7_W5 := Lib.hid (E6.out.trans (EFb.out.mono E6.out.size))
      go_wp2
      go_ret
      exact ⟨rfl, P7_w.out⟩
end Go.Proofs.Ytmlpiembglmggaa
