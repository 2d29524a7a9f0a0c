/-
  The statements on tables: WatchTurns.
-/
import Derived.Test.YtmiomfonglmfjaaUR
import Derived.Test.YtmiomfonglmfjaaR3
import Derived.Test.YtmiomfonglmfjaaR6
namespace Go.Proofs.Ytmiomfonglmfjaa
open Go.RowKit
/-- A new box. -/
def NewB (t : TypeId) (cs : List Value) (B : Nat) (u : Value) (w : World) : Prop := ∃ g, u = .pointer (some ⟨g, 0, none⟩) ∧ Blk w g cs t ∧ B ≤ g
theorem NewB.keep {t : TypeId} {cs : List Value} {B : Nat} {u : Value} {w w' : World} (h : NewB t cs B u w) (hb : Below w.heap.size w w') : NewB t cs B u w' := by
  obtain ⟨g, h1, h2, h3⟩ := h
  exact ⟨g, h1, h2.below hb h2.lt, h3⟩
/-- A row, as a value. -/
def RowP {α : Type} (E : RowK α) (l : List α) (u : Value) (w : World) : Prop := RdE E w.heap.size w u l
theorem RowP.keep {α : Type} {E : RowK α} {l : List α} {u : Value} {w w' : World} (h : RowP E l u w) (hb : Below w.heap.size w w') : RowP E l u w' := (RdE.below h hb).more hb.size
/-- A table and a fault; a table and events; as values. -/
def TabsV (l : List Wa) (f : Nat) (u : Value) (w : World) : Prop := ∃ v, u = .tuple #[.agg #[v], .int .i64 (f : Int)] ∧ RdE WaK w.heap.size w v l
theorem TabsV.keep {l : List Wa} {f : Nat} {u : Value} {w w' : World} (h : TabsV l f u w) (hb : Below w.heap.size w w') : TabsV l f u w' := by
  obtain ⟨v, h1, h2⟩ := h
  exact ⟨v, h1, (h2.below hb).more hb.size⟩
def FiresV (l : List Wa) (m : List Ev) (u : Value) (w : World) : Prop := ∃ v z, u = .tuple #[.agg #[v], z] ∧ RdE WaK w.heap.size w v l ∧ RdE EvK w.heap.size w z m
theorem FiresV.keep {l : List Wa} {m : List Ev} {u : Value} {w w' : World} (h : FiresV l m u w) (hb : Below w.heap.size w w') : FiresV l m u w' := by
  obtain ⟨v, z, h1, h2, h3⟩ := h
  exact ⟨v, z, h1, (h2.below hb).more hb.size, (h3.below hb).more hb.size⟩
theorem short_len {l : List Ch} (h : shortB l = true) : l.length ≤ 40 := by
  unfold shortB at h
  rw [Bool.and_eq_true, decide_eq_true_eq] at h
  exact h.1
theorem sameW_self (l : List Wa) : decide (l = l) = true := decide_eq_true rfl
theorem rfEventsIs (l : List Ev) (v u : Value) (w : World) (hr : RdE EvK w.heap.size w v l) (hr2 : RdE EvK w.heap.size w u l) : Calls Try.prog 24 #[v, u] w (One (.bool true) w) := by
  have h := rfEvents_any l l v u w hr hr2
  rw [decide_eq_true rfl] at h
  exact h

set_option maxRecDepth 1000000 in
set_option maxHeartbeats 16000000 in
theorem turnsW_all (v : Value) (l : List Wa) (q : Wa) (u : Value) (cs : List Ch) (w : World) (hr : RdE WaK w.heap.size w v l) (hr' : RdE ChK w.heap.size w u cs) : Calls Try.prog 4 #[.agg #[v], .agg (wac q).toArray, u] w (One (.bool true) w) := by
  have HR := Lib.hid hr
  have HC := Lib.hid hr'
  obtain ⟨kp, hkp⟩ : ∃ k, (wP q).length = k := ⟨_, rfl⟩
  have hkz : (⟨(wP q).toArray⟩ : ByteArray).size = kp := hkp
  clear hr hr' hkp
  go_enter Try.func4, Try.ntmps4
  go_wp2_with (refine wpList_box_blk rfl 24 _ rfl [v] rfl ?_)
  intro y0 b1 b2 b3
  obtain ⟨gb0, hg⟩ : ∃ g, w.heap.size = g := ⟨_, rfl⟩
  have X0 := Lib.hid b1
  have EB0 := Lib.hid b3
  rw [hg] at X0 ⊢
  clear b1 b2 b3 hg
  go_wp2_with (refine wpList_box_blk rfl 31 _ rfl (wac q) rfl ?_)
  intro y1 b1 b2 b3
  obtain ⟨gb1, hg⟩ : ∃ g, y0.heap.size = g := ⟨_, rfl⟩
  have XQ := Lib.hid b1
  have EB1 := Lib.hid b3
  rw [hg] at XQ ⊢
  clear b1 b2 b3 hg
  have P0_w := Lib.hid (EB0.out.trans (EB1.out.mono EB0.out.size))
  have c_X0 := (X0.out.below EB1.out X0.out.lt).at_ 0 _ rfl
  go_wp2_with fail
  refine (fewW_any l v y1 ((HR.out.below P0_w.out).more P0_w.out.size)).mono ?_
  rintro e W1 ⟨rfl, hb⟩
  have E1 := Lib.hid hb
  clear hb c_X0
  have P1_w := Lib.hid (P0_w.out.trans (E1.out.mono P0_w.out.size))
  clear P0_w
  have P1_y0 := Lib.hid (EB1.out.trans (E1.out.mono EB1.out.size))
  cases hF : fewB l
  · clear hF
    go_wp2_with fail
    refine (alive11 W1).mono ?_
    rintro e W2 ⟨rfl, hb⟩
    have E2 := Lib.hid hb
    clear hb
    have P2_w := Lib.hid (P1_w.out.trans (E2.out.mono P1_w.out.size))
    clear P1_w
    have P2_y0 := Lib.hid (P1_y0.out.trans (E2.out.mono P1_y0.out.size))
    clear P1_y0
    have P2_y1 := Lib.hid (E1.out.trans (E2.out.mono E1.out.size))
    go_wp2
    go_ret
    exact ⟨rfl, P2_w.out⟩
  have HL := Lib.hid (few_len hF)
  clear hF
  have c_X0 := (X0.out.below P1_y0.out X0.out.lt).at_ 0 _ rfl
  go_wp2_with fail
  refine (plainW_any l v W1 ((HR.out.below P1_w.out).more P1_w.out.size) (by have := HL.out; omega)).mono ?_
  rintro e W2 ⟨vp, rfl, hrd, hb⟩
  have E2 := Lib.hid hb
  clear hb c_X0
  have P2_w := Lib.hid (P1_w.out.trans (E2.out.mono P1_w.out.size))
  clear P1_w
  have P2_y0 := Lib.hid (P1_y0.out.trans (E2.out.mono P1_y0.out.size))
  clear P1_y0
  have P2_y1 := Lib.hid (E1.out.trans (E2.out.mono E1.out.size))
  have RP := Lib.hid hrd
  clear hrd
  go_wp2_with fail
  refine (rfRightW_any l vp W2 RP.out).mono ?_
  rintro e W3 ⟨rfl, hb⟩
  have E3 := Lib.hid hb
  clear hb
  have P3_w := Lib.hid (P2_w.out.trans (E3.out.mono P2_w.out.size))
  clear P2_w
  have P3_y0 := Lib.hid (P2_y0.out.trans (E3.out.mono P2_y0.out.size))
  clear P2_y0
  have P3_y1 := Lib.hid (P2_y1.out.trans (E3.out.mono P2_y1.out.size))
  clear P2_y1
  have P3_W1 := Lib.hid (E2.out.trans (E3.out.mono E2.out.size))
  cases hG : rightW l
  · clear hG
    go_wp2_with fail
    refine (alive11 W3).mono ?_
    rintro e W4 ⟨rfl, hb⟩
    have E4 := Lib.hid hb
    clear hb
    have P4_w := Lib.hid (P3_w.out.trans (E4.out.mono P3_w.out.size))
    clear P3_w
    have P4_y0 := Lib.hid (P3_y0.out.trans (E4.out.mono P3_y0.out.size))
    clear P3_y0
    have P4_y1 := Lib.hid (P3_y1.out.trans (E4.out.mono P3_y1.out.size))
    clear P3_y1
    have P4_W1 := Lib.hid (P3_W1.out.trans (E4.out.mono P3_W1.out.size))
    clear P3_W1
    have P4_W2 := Lib.hid (E3.out.trans (E4.out.mono E3.out.size))
    go_wp2
    go_ret
    exact ⟨rfl, P4_w.out⟩
  have HRT := Lib.hid ((rightW_iff l).1 hG)
  clear hG
  have c_XQ := (XQ.out.below P3_y1.out XQ.out.lt).at_ 0 _ rfl
  have c_XQ_1 := (XQ.out.below P3_y1.out XQ.out.lt).at_ 1 _ rfl
  have c_XQ_2 := (XQ.out.below P3_y1.out XQ.out.lt).at_ 2 _ rfl
  by_cases hkl : (300 : Int) < (kp : Int)
  · go_wp2_with fail
    refine (alive11 W3).mono ?_
    rintro e W4 ⟨rfl, hb⟩
    have E4 := Lib.hid hb
    clear hb c_XQ c_XQ_1 c_XQ_2
    have P4_w := Lib.hid (P3_w.out.trans (E4.out.mono P3_w.out.size))
    clear P3_w
    have P4_y0 := Lib.hid (P3_y0.out.trans (E4.out.mono P3_y0.out.size))
    clear P3_y0
    have P4_y1 := Lib.hid (P3_y1.out.trans (E4.out.mono P3_y1.out.size))
    clear P3_y1
    have P4_W1 := Lib.hid (P3_W1.out.trans (E4.out.mono P3_W1.out.size))
    clear P3_W1
    have P4_W2 := Lib.hid (E3.out.trans (E4.out.mono E3.out.size))
    go_wp2
    go_ret
    exact ⟨rfl, P4_w.out⟩
  go_wp2_with fail
  refine (shortW_any cs u W3 ((HC.out.below P3_w.out).more P3_w.out.size)).mono ?_
  rintro e W4 ⟨rfl, hb⟩
  have E4 := Lib.hid hb
  clear hb c_XQ c_XQ_1 c_XQ_2
  have P4_w := Lib.hid (P3_w.out.trans (E4.out.mono P3_w.out.size))
  clear P3_w
  have P4_y0 := Lib.hid (P3_y0.out.trans (E4.out.mono P3_y0.out.size))
  clear P3_y0
  have P4_y1 := Lib.hid (P3_y1.out.trans (E4.out.mono P3_y1.out.size))
  clear P3_y1
  have P4_W1 := Lib.hid (P3_W1.out.trans (E4.out.mono P3_W1.out.size))
  clear P3_W1
  have P4_W2 := Lib.hid (E3.out.trans (E4.out.mono E3.out.size))
  cases hF : shortB cs
  · clear hF
    go_wp2_with fail
    refine (alive11 W4).mono ?_
    rintro e W5 ⟨rfl, hb⟩
    have E5 := Lib.hid hb
    clear hb
    have P5_w := Lib.hid (P4_w.out.trans (E5.out.mono P4_w.out.size))
    clear P4_w
    have P5_y0 := Lib.hid (P4_y0.out.trans (E5.out.mono P4_y0.out.size))
    clear P4_y0
    have P5_y1 := Lib.hid (P4_y1.out.trans (E5.out.mono P4_y1.out.size))
    clear P4_y1
    have P5_W1 := Lib.hid (P4_W1.out.trans (E5.out.mono P4_W1.out.size))
    clear P4_W1
    have P5_W2 := Lib.hid (P4_W2.out.trans (E5.out.mono P4_W2.out.size))
    clear P4_W2
    have P5_W3 := Lib.hid (E4.out.trans (E5.out.mono E4.out.size))
    go_wp2
    go_ret
    exact ⟨rfl, P5_w.out⟩
  have HS := Lib.hid (short_len hF)
  clear hF
  have c_X0 := (X0.out.below P4_y0.out X0.out.lt).at_ 0 _ rfl
  go_wp2_with fail
  refine (plainW_any l v W4 ((HR.out.below P4_w.out).more P4_w.out.size) (by have := HL.out; omega)).mono ?_
  rintro e va5 ⟨vw, rfl, hrd, hb⟩
  clear c_X0
  have HONE := Lib.hid (tab_rd hrd)
  go_wp2_with (refine wpList_alloc_blk rfl 39 rfl [.slice none 0 0] zTbR ?_)
  intro vb5 a1 a2 a3
  obtain ⟨vg5, hg⟩ : ∃ g, va5.heap.size = g := ⟨_, rfl⟩
  have AA := Lib.hid a1
  have EB := Lib.hid (hb.trans (a3.mono hb.size))
  have A3 := Lib.hid a3
  have hbg : W4.heap.size ≤ vg5 := by have := hb.size; omega
  have hgs : vg5 ≤ vb5.heap.size := by omega
  have HG := Lib.hid hg
  have RR0 := Lib.hid hrd
  rw [hg] at AA A3 RR0 ⊢
  clear a1 a2 a3 hb hg hrd
  go_wp2_with (refine wpList_store_to rfl 39 _ _ rfl vg5 [vw] [.slice none 0 0] 39 rfl rfl AA.out sTbR rfl HONE.out ?_)
  intro W5 e1 e2 e3 e4
  have XW := Lib.hid e1
  have E5 := Lib.hid (EB.out.trans (e3.mono hbg))
  have RW := Lib.hid (((RR0.out.below A3.out).below e3).more (show vg5 ≤ W5.heap.size by omega))
  clear e1 e2 e3 e4 AA EB A3 hbg hgs HG RR0
  have P5_w := Lib.hid (P4_w.out.trans (E5.out.mono P4_w.out.size))
  clear P4_w
  have P5_y0 := Lib.hid (P4_y0.out.trans (E5.out.mono P4_y0.out.size))
  clear P4_y0
  have P5_y1 := Lib.hid (P4_y1.out.trans (E5.out.mono P4_y1.out.size))
  clear P4_y1
  have P5_W1 := Lib.hid (P4_W1.out.trans (E5.out.mono P4_W1.out.size))
  clear P4_W1
  have P5_W2 := Lib.hid (P4_W2.out.trans (E5.out.mono P4_W2.out.size))
  clear P4_W2
  have P5_W3 := Lib.hid (E4.out.trans (E5.out.mono E4.out.size))
  have c_X0 := (X0.out.below P5_y0.out X0.out.lt).at_ 0 _ rfl
  have c_XQ := (XQ.out.below P5_y1.out XQ.out.lt).at_ 0 _ rfl
  have c_XQ_1 := (XQ.out.below P5_y1.out XQ.out.lt).at_ 1 _ rfl
  have c_XQ_2 := (XQ.out.below P5_y1.out XQ.out.lt).at_ 2 _ rfl
  obtain ⟨L1, hL1⟩ : ∃ q1, addW l q = q1 := ⟨_, rfl⟩
  have HL1 := Lib.hid hL1
  obtain ⟨f1, hf1⟩ : ∃ q1, addE l q = q1 := ⟨_, rfl⟩
  have HF1 := Lib.hid hf1
  have LL1 : Hid (L1.length ≤ 100) := by
    show _ ≤ _
    have h1 := addW_len l q
    have h2 := HL.out
    rw [hL1] at h1
    omega
  clear hL1 hf1
  go_wp2_with fail
  refine (waAdd_any l q v W5 ((HR.out.below P5_w.out).more P5_w.out.size) HRT.out).mono ?_
  rintro e va6 ⟨v8, rfl, hrd, hb⟩
  clear c_X0 c_XQ c_XQ_1 c_XQ_2
  have ONE8 := Lib.hid (tab_rd hrd)
  rw [HL1.out] at hrd
  rw [HF1.out]
  go_wp2_with (refine wpList_alloc_blk rfl 24 rfl [.slice none 0 0] zTbP ?_)
  intro vb6 a1 a2 a3
  obtain ⟨vg6, hg⟩ : ∃ g, va6.heap.size = g := ⟨_, rfl⟩
  have AA := Lib.hid a1
  have EB := Lib.hid (hb.trans (a3.mono hb.size))
  have A3 := Lib.hid a3
  have hbg : W5.heap.size ≤ vg6 := by have := hb.size; omega
  have hgs : vg6 ≤ vb6.heap.size := by omega
  have HG := Lib.hid hg
  have RR0 := Lib.hid hrd
  rw [hg] at AA A3 RR0 ⊢
  clear a1 a2 a3 hb hg hrd
  go_wp2_with (refine wpList_store_to rfl 24 _ _ rfl vg6 [v8] [.slice none 0 0] 24 rfl rfl AA.out sTbP rfl ONE8.out ?_)
  intro W6 e1 e2 e3 e4
  have X8 := Lib.hid e1
  have E6 := Lib.hid (EB.out.trans (e3.mono hbg))
  have R8 := Lib.hid (((RR0.out.below A3.out).below e3).more (show vg6 ≤ W6.heap.size by omega))
  clear e1 e2 e3 e4 AA EB A3 hbg hgs HG RR0
  have P6_w := Lib.hid (P5_w.out.trans (E6.out.mono P5_w.out.size))
  clear P5_w
  have P6_y0 := Lib.hid (P5_y0.out.trans (E6.out.mono P5_y0.out.size))
  clear P5_y0
  have P6_y1 := Lib.hid (P5_y1.out.trans (E6.out.mono P5_y1.out.size))
  clear P5_y1
  have P6_W1 := Lib.hid (P5_W1.out.trans (E6.out.mono P5_W1.out.size))
  clear P5_W1
  have P6_W2 := Lib.hid (P5_W2.out.trans (E6.out.mono P5_W2.out.size))
  clear P5_W2
  have P6_W3 := Lib.hid (P5_W3.out.trans (E6.out.mono P5_W3.out.size))
  clear P5_W3
  have P6_W4 := Lib.hid (E5.out.trans (E6.out.mono E5.out.size))
  go_wp2
  have ZXW := Lib.hid (XW.out.below E6.out XW.out.lt)
  have ZXQ := Lib.hid (XQ.out.below P6_y1.out XQ.out.lt)
  have ZRW := Lib.hid ((RW.out.below E6.out).more E6.out.size)
  refine wp_region_relyF [6] 8 2 (fun x => ⟨#[.agg #[v], .agg (wac q).toArray, u, .pointer (some { block := gb0, off := 0 }), .pointer (some { block := gb1, off := 0 }), undef, .bool false, .pointer (some { block := vg5, off := 0 }), .pointer (some { block := vg6, off := 0 }), .int IntKind.i64 ↑f1, x 7, undef, undef, undef, undef, undef, .agg #[v], .bool true, .bool false, .bool false, .agg #[v], .agg #[vp], .bool true, .bool false, .bool false, .bool false, .pointer (some { block := gb1, off := 0 }), txt (wP q), .int IntKind.i64 ↑kp, .bool (decide ((300 : Int) < (kp : Int))), .bool (decide ((300 : Int) < (kp : Int))), .bool (decide ((300 : Int) < (kp : Int))), u, .bool true, .bool false, .bool (decide ((300 : Int) < (kp : Int))), undef, .agg #[v], .agg #[vw], .tuple #[Value.agg #[v8], Value.int IntKind.i64 ↑f1], .agg #[v], .agg #[txt (wP q), Value.int IntKind.i64 (wC q), Value.bool (wK q)], .tuple #[Value.agg #[v8], Value.int IntKind.i64 ↑f1], .agg #[v8], .int IntKind.i64 ↑f1, x 4, x 0, x 1, x 2, x 3, x 5, x 6, undef, undef, undef, undef, undef, undef, undef, undef, undef, undef, undef, undef, undef, undef, undef, undef, undef, undef, undef, undef, undef, undef, undef, undef, undef, undef, undef, undef, undef, undef, undef, undef, undef, undef, undef, undef, undef, undef, undef, undef, undef, undef, undef, undef, undef, undef, undef, undef, undef, undef, undef, undef, undef, undef, undef], []⟩) (fun jj => ([eqV (.agg #[vw]), eqV (.agg (wac q).toArray), (eqV (.agg (wac q).toArray)), (TabsV L1 f1), (TabsV L1 f1), (PlainW L1), (eqV (.int .i64 (f1 : Int))), (NewB 39 [.slice none 0 0] W6.heap.size)] : List (Value → World → Prop)).getD jj (fun _ _ => True)) rfl ⟨fun kk => [_, _, _, _, _, _, _, _].getD kk undef, rfl⟩ (by kernel_rfl) (by kernel_rfl) (by kernel_rfl) ?pure ?steps ?fin
  case steps =>
    refine StepsAt.val 0 (.agg #[vw]) rfl (fun _ _ => rfl) rfl rfl (fun x wx hb hd => ?_) ?_
    · have cc := ((ZXW.out.below hb ZXW.out.lt).cell 0).trans (show _ = some (vw) from rfl)
      first | (go_simp; done) | (go_simp; rfl)
    refine StepsAt.val 1 (.agg (wac q).toArray) rfl (fun _ _ => rfl) rfl rfl (fun x wx hb hd => ?_) ?_
    · have cc := ((ZXQ.out.below hb ZXQ.out.lt).at_ 0 _ rfl)
      have cd := ((ZXQ.out.below hb ZXQ.out.lt).at_ 1 _ rfl)
      have ce := ((ZXQ.out.below hb ZXQ.out.lt).at_ 2 _ rfl)
      first | (go_simp; done) | (go_simp; rfl)
    refine StepsAt.cons 2 (fun _ _ _ h hb => h) (fun _ _ => rfl) rfl rfl (fun x wx hb hd K hK => ?_) ?_
    · have h1 : Hid (x 1 = .agg (wac q).toArray) := hd 1 (by kernel_rfl)
      go_simp
      refine calls_args (args2 := #[.agg (wac q).toArray]) (by rw [h1.out]) ?_
      refine (oneW_any q _).mono ?_
      rintro e w99 ⟨rfl, hb99⟩
      exact hK.out _ _ hb99 rfl
    refine StepsAt.cons 3 (fun _ _ _ h hb => h.keep hb) (fun _ _ => rfl) rfl rfl (fun x wx hb hd K hK => ?_) ?_
    · have h0 : Hid (x 0 = .agg #[vw]) := hd 0 (by kernel_rfl)
      have h2 : Hid (x 2 = .agg (wac q).toArray) := hd 2 (by kernel_rfl)
      go_simp
      refine calls_args (args2 := #[.agg #[vw], .agg (wac q).toArray]) (by rw [h0.out, h2.out]) ?_
      have ha := rfAddW_any l q vw _ ((ZRW.out.below hb).more hb.size) (by have := HL.out; omega)
      rw [HL1.out, HF1.out] at ha
      refine ha.mono ?_
      rintro e w99 ⟨v99, rfl, hrd, hb99⟩
      exact hK.out _ _ hb99 ⟨v99, rfl, hrd⟩
    refine StepsAt.cons 4 (fun _ _ _ h hb => h.keep hb) (fun _ _ => rfl) rfl rfl (fun x wx hb hd K hK => ?_) ?_
    · have h3 : TabsV L1 f1 (x 3) wx := hd 3 (by kernel_rfl)
      go_simp
      exact hK.out (x 3) _ (Below.refl _ _) h3
    refine StepsAt.cons 5 (fun _ _ _ h hb => h.keep hb) (fun _ _ => rfl) rfl rfl (fun x wx hb hd K hK => ?_) ?_
    · have h4 : TabsV L1 f1 (x 4) wx := hd 4 (by kernel_rfl)
      obtain ⟨v99, hv99, hr99⟩ := h4
      have H99 := Lib.hid hr99
      rw [hv99] at hK ⊢
      clear hd hv99 hr99
      go_simp
      exact hK.out _ _ (Below.refl _ _) ⟨v99, rfl, H99.out⟩
    refine StepsAt.cons 6 (fun _ _ _ h hb => h) (fun _ _ => rfl) rfl rfl (fun x wx hb hd K hK => ?_) ?_
    · have h4 : TabsV L1 f1 (x 4) wx := hd 4 (by kernel_rfl)
      obtain ⟨v99, hv99, hr99⟩ := h4
      rw [hv99] at hK ⊢
      clear hd hv99 hr99
      go_simp
      exact hK.out _ _ (Below.refl _ _) rfl
    refine StepsAt.cons 7 (fun _ _ _ h hb => h.keep hb) (fun _ _ => rfl) rfl rfl (fun x wx hb hd K hK => ?_) ?_
    · refine wp_of_list rfl (wpList_alloc_blk rfl 39 rfl [.slice none 0 0] zTbR ?_)
      intro w8 a1 a2 a3
      exact hK.out _ _ a3 ⟨_, rfl, a1, hb.size⟩
    exact StepsAt.done
  case pure =>
    intro p hp op ho xXA wx hd
    obtain rfl := List.mem_singleton.1 hp
    injection ho with ho
    subst ho
    obtain ⟨v99, hv99, -⟩ : TabsV L1 f1 (xXA 4) wx := hd 4 (by kernel_rfl)
    refine ⟨by rfl, .int .i64 (f1 : Int), fun w9 => ?_, rfl⟩
    first | (go_simp; done) | (go_simp; rw [hv99]; done) | (go_simp; rw [hv99]; rfl)
  case fin =>
    intro xXA wx hb hd
    obtain ⟨vXA, hxv, hrA⟩ : PlainW L1 (xXA 5) wx := hd 5 (by omega)
    obtain ⟨gXA, hxp, hbA, hgA⟩ : NewB 39 [.slice none 0 0] W6.heap.size (xXA 7) wx := hd 7 (by omega)
    have hxs : xXA 6 = .int .i64 (f1 : Int) := hd 6 (by omega)
    have ONEXA := Lib.hid (tab_rd hrA)
    have EBXA := Lib.hid hb
    have BAXA := Lib.hid hbA
    have RAXA := Lib.hid hrA
    refine AnyTill.any (S := fun _ => True) (m := 10) _ _ _ _ ?_
    rw [hxv, hxp, hxs]
    clear hd hb hxv hxp hxs hbA hrA
    refine AnyTill.one (i := 8) (by kernel_rfl) rfl (by rfl) (fun K hK => ?_)
    refine wp_of_list rfl (wpList_store_to rfl 39 _ _ rfl gXA [vXA] [.slice none 0 0] 39 rfl rfl BAXA.out sTbR rfl ONEXA.out ?_)
    intro W7 e1 e2 e3 e4
    refine hK.out _ _ (.inr trivial) ?_
    clear hK K
    refine AnyTill.one (i := 9) (by kernel_rfl) rfl (by rfl) (fun K hK => ?_)
    go_simp
    refine hK.out _ _ (.inr trivial) ?_
    clear hK K
    refine AnyTill.done (by kernel_rfl) ?_
    refine NoPanic.normal ?_
    try dsimp only
    have XA := Lib.hid e1
    have E7 := Lib.hid (EBXA.out.trans (e3.mono hgA))
    have RA := Lib.hid ((RAXA.out.but BAXA.out (fun off h => absurd h (by show ¬ off + 3 ≤ 1; omega)) e4).more (show wx.heap.size ≤ W7.heap.size by omega))
    clear e1 e2 e3 e4 EBXA BAXA RAXA hgA
    have P7_w := Lib.hid (P6_w.out.trans (E7.out.mono P6_w.out.size))
    clear P6_w
    have P7_y0 := Lib.hid (P6_y0.out.trans (E7.out.mono P6_y0.out.size))
    clear P6_y0
    have P7_y1 := Lib.hid (P6_y1.out.trans (E7.out.mono P6_y1.out.size))
    clear P6_y1
    have P7_W1 := Lib.hid (P6_W1.out.trans (E7.out.mono P6_W1.out.size))
    clear P6_W1
    have P7_W2 := Lib.hid (P6_W2.out.trans (E7.out.mono P6_W2.out.size))
    clear P6_W2
    have P7_W3 := Lib.hid (P6_W3.out.trans (E7.out.mono P6_W3.out.size))
    clear P6_W3
    have P7_W4 := Lib.hid (P6_W4.out.trans (E7.out.mono P6_W4.out.size))
    clear P6_W4
    have P7_W5 := Lib.hid (E6.out.trans (E7.out.mono E6.out.size))
    obtain ⟨L2, hL2⟩ : ∃ q1, leftW l cs = q1 := ⟨_, rfl⟩
    have HL2 := Lib.hid hL2
    obtain ⟨E2, hE2⟩ : ∃ q1, fireW l cs = q1 := ⟨_, rfl⟩
    have HE2 := Lib.hid hE2
    have LL2 : Hid (L2.length ≤ 60 ∧ E2.length ≤ 60) := by
      show _ ∧ _
      have h1 := fire_len l cs
      have h2 := HL.out
      rw [hL2, hE2] at h1
      constructor <;> omega
    clear hL2 hE2
    have c_X0 := (X0.out.below P7_y0.out X0.out.lt).at_ 0 _ rfl
    go_wp2_with fail
    refine (waFire_any l cs v u W7 ((HR.out.below P7_w.out).more P7_w.out.size) ((HC.out.below P7_w.out).more P7_w.out.size) HRT.out (by have := HS.out; omega)).mono ?_
    rintro e va8 ⟨vC, uC, rfl, hrd, hre, hb⟩
    clear c_X0
    have ONEC := Lib.hid (tab_rd hrd)
    rw [HL2.out] at hrd
    rw [HE2.out] at hre
    go_wp2_with (refine wpList_alloc_blk rfl 24 rfl [.slice none 0 0] zTbP ?_)
    intro vb8 a1 a2 a3
    obtain ⟨vg8, hg⟩ : ∃ g, va8.heap.size = g := ⟨_, rfl⟩
    have AA := Lib.hid a1
    have EB := Lib.hid (hb.trans (a3.mono hb.size))
    have A3 := Lib.hid a3
    have hbg : W7.heap.size ≤ vg8 := by have := hb.size; omega
    have hgs : vg8 ≤ vb8.heap.size := by omega
    have HG := Lib.hid hg
    have RR0 := Lib.hid hrd
    have RR1 := Lib.hid hre
    rw [hg] at AA A3 RR0 RR1 ⊢
    clear a1 a2 a3 hb hg hrd hre
    go_wp2_with (refine wpList_store_to rfl 24 _ _ rfl vg8 [vC] [.slice none 0 0] 24 rfl rfl AA.out sTbP rfl ONEC.out ?_)
    intro W8 e1 e2 e3 e4
    have XC := Lib.hid e1
    have E8 := Lib.hid (EB.out.trans (e3.mono hbg))
    have RC := Lib.hid (((RR0.out.below A3.out).below e3).more (show vg8 ≤ W8.heap.size by omega))
    have SC := Lib.hid (((RR1.out.below A3.out).below e3).more (show vg8 ≤ W8.heap.size by omega))
    clear e1 e2 e3 e4 AA EB A3 hbg hgs HG RR0 RR1
    have P8_w := Lib.hid (P7_w.out.trans (E8.out.mono P7_w.out.size))
    clear P7_w
    have P8_y0 := Lib.hid (P7_y0.out.trans (E8.out.mono P7_y0.out.size))
    clear P7_y0
    have P8_y1 := Lib.hid (P7_y1.out.trans (E8.out.mono P7_y1.out.size))
    clear P7_y1
    have P8_W1 := Lib.hid (P7_W1.out.trans (E8.out.mono P7_W1.out.size))
    clear P7_W1
    have P8_W2 := Lib.hid (P7_W2.out.trans (E8.out.mono P7_W2.out.size))
    clear P7_W2
    have P8_W3 := Lib.hid (P7_W3.out.trans (E8.out.mono P7_W3.out.size))
    clear P7_W3
    have P8_W4 := Lib.hid (P7_W4.out.trans (E8.out.mono P7_W4.out.size))
    clear P7_W4
    have P8_W5 := Lib.hid (P7_W5.out.trans (E8.out.mono P7_W5.out.size))
    clear P7_W5
    have P8_W6 := Lib.hid (E7.out.trans (E8.out.mono E7.out.size))
    go_wp2
    have YXW := Lib.hid (XW.out.below P8_W5.out XW.out.lt)
    have YRW := Lib.hid ((RW.out.below P8_W5.out).more P8_W5.out.size)
    have YHC := Lib.hid ((HC.out.below P8_w.out).more P8_w.out.size)
    refine wp_region_relyF [6] 8 2 (fun x => ⟨#[.agg #[v], .agg (wac q).toArray, u, .pointer (some { block := gb0, off := 0 }), .pointer (some { block := gb1, off := 0 }), undef, .bool false, .pointer (some { block := vg5, off := 0 }), .pointer (some { block := vg6, off := 0 }), .int IntKind.i64 ↑f1, .pointer (some { block := gXA, off := 0 }), .int IntKind.i64 ↑f1, .pointer (some { block := vg8, off := 0 }), uC, x 7, undef, .agg #[v], .bool true, .bool false, .bool false, .agg #[v], .agg #[vp], .bool true, .bool false, .bool false, .bool false, .pointer (some { block := gb1, off := 0 }), txt (wP q), .int IntKind.i64 ↑kp, .bool (decide ((300 : Int) < (kp : Int))), .bool (decide ((300 : Int) < (kp : Int))), .bool (decide ((300 : Int) < (kp : Int))), u, .bool true, .bool false, .bool (decide ((300 : Int) < (kp : Int))), undef, .agg #[v], .agg #[vw], .tuple #[Value.agg #[v8], Value.int IntKind.i64 ↑f1], .agg #[v], .agg #[txt (wP q), Value.int IntKind.i64 (wC q), Value.bool (wK q)], .tuple #[Value.agg #[v8], Value.int IntKind.i64 ↑f1], .agg #[v8], .int IntKind.i64 ↑f1, xXA 4, xXA 0, xXA 1, xXA 2, xXA 3, .agg #[vXA], .int IntKind.i64 ↑f1, .tuple #[Value.agg #[vC], uC], .agg #[v], u, .tuple #[Value.agg #[vC], uC], .agg #[vC], uC, x 4, x 0, x 1, x 2, x 3, x 5, x 6, undef, undef, undef, undef, undef, undef, undef, undef, undef, undef, undef, undef, undef, undef, undef, undef, undef, undef, undef, undef, undef, undef, undef, undef, undef, undef, undef, undef, undef, undef, undef, undef, undef, undef, undef, undef, undef, undef, undef, undef, undef, undef], []⟩) (fun jj => ([eqV (.agg #[vw]), eqV (u), (RowP ChK cs), (FiresV L2 E2), (FiresV L2 E2), (PlainW L2), (RowP EvK E2), (NewB 39 [.slice none 0 0] W8.heap.size)] : List (Value → World → Prop)).getD jj (fun _ _ => True)) rfl ⟨fun kk => [_, _, _, _, _, _, _, _].getD kk undef, rfl⟩ (by kernel_rfl) (by kernel_rfl) (by kernel_rfl) ?pure ?steps ?fin
    case steps =>
      refine StepsAt.val 0 (.agg #[vw]) rfl (fun _ _ => rfl) rfl rfl (fun x wy hb hd => ?_) ?_
      · have cc := ((YXW.out.below hb YXW.out.lt).cell 0).trans (show _ = some (vw) from rfl)
        first | (go_simp; done) | (go_simp; rfl)
      refine StepsAt.val 1 (u) rfl (fun _ _ => rfl) rfl rfl (fun x wy hb hd => ?_) ?_
      · first | (go_simp; done) | (go_simp; rfl)
      refine StepsAt.cons 2 (fun _ _ _ h hb => h.keep hb) (fun _ _ => rfl) rfl rfl (fun x wy hb hd K hK => ?_) ?_
      · have h1 : Hid (x 1 = u) := hd 1 (by kernel_rfl)
        go_simp
        refine calls_args (args2 := #[u]) (by rw [h1.out]) ?_
        refine (changesW_any cs u _ ((YHC.out.below hb).more hb.size) (by have := HS.out; omega)).mono ?_
        rintro e w99 ⟨v99, rfl, hrd, hb99⟩
        exact hK.out _ _ hb99 hrd
      refine StepsAt.cons 3 (fun _ _ _ h hb => h.keep hb) (fun _ _ => rfl) rfl rfl (fun x wy hb hd K hK => ?_) ?_
      · have h0 : Hid (x 0 = .agg #[vw]) := hd 0 (by kernel_rfl)
        have h2 : RowP ChK cs (x 2) wy := hd 2 (by kernel_rfl)
        go_simp
        refine calls_args (args2 := #[.agg #[vw], x 2]) (by rw [h0.out]) ?_
        have ha := rfFireW_any l cs vw (x 2) _ ((YRW.out.below hb).more hb.size) h2 (by have := HL.out; omega)
        rw [HL2.out, HE2.out] at ha
        refine ha.mono ?_
        rintro e w99 ⟨v99, u99, rfl, hrd, hre, hb99⟩
        exact hK.out _ _ hb99 ⟨v99, u99, rfl, hrd, hre⟩
      refine StepsAt.cons 4 (fun _ _ _ h hb => h.keep hb) (fun _ _ => rfl) rfl rfl (fun x wy hb hd K hK => ?_) ?_
      · have h3 : FiresV L2 E2 (x 3) wy := hd 3 (by kernel_rfl)
        go_simp
        exact hK.out (x 3) _ (Below.refl _ _) h3
      refine StepsAt.cons 5 (fun _ _ _ h hb => h.keep hb) (fun _ _ => rfl) rfl rfl (fun x wy hb hd K hK => ?_) ?_
      · have h4 : FiresV L2 E2 (x 4) wy := hd 4 (by kernel_rfl)
        obtain ⟨v99, u99, hv99, hr99, -⟩ := h4
        have H99 := Lib.hid hr99
        rw [hv99] at hK ⊢
        clear hd hv99 hr99
        go_simp
        exact hK.out _ _ (Below.refl _ _) ⟨v99, rfl, H99.out⟩
      refine StepsAt.cons 6 (fun _ _ _ h hb => h.keep hb) (fun _ _ => rfl) rfl rfl (fun x wy hb hd K hK => ?_) ?_
      · have h4 : FiresV L2 E2 (x 4) wy := hd 4 (by kernel_rfl)
        obtain ⟨v99, u99, hv99, -, hr99⟩ := h4
        have H99 := Lib.hid hr99
        rw [hv99] at hK ⊢
        clear hd hv99 hr99
        go_simp
        exact hK.out _ _ (Below.refl _ _) H99.out
      refine StepsAt.cons 7 (fun _ _ _ h hb => h.keep hb) (fun _ _ => rfl) rfl rfl (fun x wy hb hd K hK => ?_) ?_
      · refine wp_of_list rfl (wpList_alloc_blk rfl 39 rfl [.slice none 0 0] zTbR ?_)
        intro w8 a1 a2 a3
        exact hK.out _ _ a3 ⟨_, rfl, a1, hb.size⟩
      exact StepsAt.done
    case pure =>
      intro p hp op ho xXE wy hd
      obtain rfl := List.mem_singleton.1 hp
      injection ho with ho
      subst ho
      obtain ⟨v99, u99, hv99, -, hr99⟩ : FiresV L2 E2 (xXE 4) wy := hd 4 (by kernel_rfl)
      refine ⟨by rfl, u99, fun w9 => ?_, hr99⟩
      first | (go_simp; done) | (go_simp; rw [hv99]; done) | (go_simp; rw [hv99]; rfl)
    case fin =>
      intro xXE wy hb hd
      obtain ⟨vXE, hxv, hrA⟩ : PlainW L2 (xXE 5) wy := hd 5 (by omega)
      obtain ⟨gXE, hxp, hbA, hgA⟩ : NewB 39 [.slice none 0 0] W8.heap.size (xXE 7) wy := hd 7 (by omega)
      have hrS : RowP EvK E2 (xXE 6) wy := hd 6 (by omega)
      obtain ⟨uXE, hxs⟩ : ∃ u, xXE 6 = u := ⟨_, rfl⟩
      rw [hxs] at hrS
      have ONEXE := Lib.hid (tab_rd hrA)
      have EBXE := Lib.hid hb
      have BAXE := Lib.hid hbA
      have RAXE := Lib.hid hrA
      have RSXE := Lib.hid hrS
      refine AnyTill.any (S := fun _ => True) (m := 10) _ _ _ _ ?_
      rw [hxv, hxp, hxs]
      clear hd hb hxv hxp hxs hbA hrA hrS
      refine AnyTill.one (i := 8) (by kernel_rfl) rfl (by rfl) (fun K hK => ?_)
      refine wp_of_list rfl (wpList_store_to rfl 39 _ _ rfl gXE [vXE] [.slice none 0 0] 39 rfl rfl BAXE.out sTbR rfl ONEXE.out ?_)
      intro W9 e1 e2 e3 e4
      refine hK.out _ _ (.inr trivial) ?_
      clear hK K
      refine AnyTill.one (i := 9) (by kernel_rfl) rfl (by rfl) (fun K hK => ?_)
      go_simp
      refine hK.out _ _ (.inr trivial) ?_
      clear hK K
      refine AnyTill.done (by kernel_rfl) ?_
      refine NoPanic.normal ?_
      try dsimp only
      have XE := Lib.hid e1
      have E9 := Lib.hid (EBXE.out.trans (e3.mono hgA))
      have RE := Lib.hid ((RAXE.out.but BAXE.out (fun off h => absurd h (by show ¬ off + 3 ≤ 1; omega)) e4).more (show wy.heap.size ≤ W9.heap.size by omega))
      have SE := Lib.hid ((show RdE _ _ _ _ _ from RSXE.out).but BAXE.out (fun off h => absurd h (by show ¬ off + 5 ≤ 1; omega)) e4 |>.more (show wy.heap.size ≤ W9.heap.size by omega))
      clear e1 e2 e3 e4 EBXE BAXE RAXE hgA RSXE
      have P9_w := Lib.hid (P8_w.out.trans (E9.out.mono P8_w.out.size))
      clear P8_w
      have P9_y0 := Lib.hid (P8_y0.out.trans (E9.out.mono P8_y0.out.size))
      clear P8_y0
      have P9_y1 := Lib.hid (P8_y1.out.trans (E9.out.mono P8_y1.out.size))
      clear P8_y1
      have P9_W1 := Lib.hid (P8_W1.out.trans (E9.out.mono P8_W1.out.size))
      clear P8_W1
      have P9_W2 := Lib.hid (P8_W2.out.trans (E9.out.mono P8_W2.out.size))
      clear P8_W2
      have P9_W3 := Lib.hid (P8_W3.out.trans (E9.out.mono P8_W3.out.size))
      clear P8_W3
      have P9_W4 := Lib.hid (P8_W4.out.trans (E9.out.mono P8_W4.out.size))
      clear P8_W4
      have P9_W5 := Lib.hid (P8_W5.out.trans (E9.out.mono P8_W5.out.size))
      clear P8_W5
      have P9_W6 := Lib.hid (P8_W6.out.trans (E9.out.mono P8_W6.out.size))
      clear P8_W6
      have P9_W7 := Lib.hid (E8.out.trans (E9.out.mono E8.out.size))
      have hn1 : ((f1 : Int) != (f1 : Int)) = false := by simp
      go_wp2
      have UX8 := Lib.hid (X8.out.below P9_W6.out X8.out.lt)
      have UXA := Lib.hid (XA.out.below P9_W7.out XA.out.lt)
      have UXC := Lib.hid (XC.out.below E9.out XC.out.lt)
      have UXE := Lib.hid XE.out
      have UR8 := Lib.hid ((R8.out.below P9_W6.out).more P9_W6.out.size)
      have URA := Lib.hid ((RA.out.below P9_W7.out).more P9_W7.out.size)
      have URC := Lib.hid ((RC.out.below E9.out).more E9.out.size)
      have URE := Lib.hid RE.out
      clear hn1
      refine wp_region_rely2 17 0 (fun x => ⟨#[.agg #[v], .agg (wac q).toArray, u, .pointer (some { block := gb0, off := 0 }), .pointer (some { block := gb1, off := 0 }), undef, .bool false, .pointer (some { block := vg5, off := 0 }), .pointer (some { block := vg6, off := 0 }), .int IntKind.i64 ↑f1, .pointer (some { block := gXA, off := 0 }), .int IntKind.i64 ↑f1, .pointer (some { block := vg8, off := 0 }), uC, .pointer (some { block := gXE, off := 0 }), uXE, .agg #[v], .bool true, .bool false, .bool false, .agg #[v], .agg #[vp], .bool true, .bool false, .bool false, .bool false, .pointer (some { block := gb1, off := 0 }), txt (wP q), .int IntKind.i64 ↑kp, .bool (decide ((300 : Int) < (kp : Int))), .bool (decide ((300 : Int) < (kp : Int))), .bool (decide ((300 : Int) < (kp : Int))), u, .bool true, .bool false, .bool (decide ((300 : Int) < (kp : Int))), undef, .agg #[v], .agg #[vw], .tuple #[Value.agg #[v8], Value.int IntKind.i64 ↑f1], .agg #[v], .agg #[txt (wP q), Value.int IntKind.i64 (wC q), Value.bool (wK q)], .tuple #[Value.agg #[v8], Value.int IntKind.i64 ↑f1], .agg #[v8], .int IntKind.i64 ↑f1, xXA 4, xXA 0, xXA 1, xXA 2, xXA 3, .agg #[vXA], .int IntKind.i64 ↑f1, .tuple #[Value.agg #[vC], uC], .agg #[v], u, .tuple #[Value.agg #[vC], uC], .agg #[vC], uC, xXE 4, xXE 0, xXE 1, xXE 2, xXE 3, .agg #[vXE], uXE, x 0, x 1, x 2, x 3, x 4, x 5, x 6, x 7, x 8, x 9, x 10, x 11, x 12, x 13, x 14, x 15, x 16, undef, undef, undef, undef, undef, undef, undef, undef, undef, undef, undef, undef, undef, undef, undef, undef, undef, undef, undef, undef, undef, undef, undef, undef, undef], []⟩) (fun jj => ([eqV (.agg #[v8]), (PlainW L1), eqV (.agg #[vXA]), (eqV (.bool true)), eqV (.bool false), eqV (.bool false), eqV (.int IntKind.i64 ↑f1), eqV (.int IntKind.i64 ↑f1), eqV (.bool false), eqV (.bool false), eqV (.bool false), eqV (.agg #[vC]), (PlainW L2), eqV (.agg #[vXE]), (eqV (.bool true)), eqV (.bool false), eqV (.bool false)] : List (Value → World → Prop)).getD jj (fun _ _ => True)) rfl ⟨fun kk => [_, _, _, _, _, _, _, _, _, _, _, _, _, _, _, _, _].getD kk undef, rfl⟩ (by kernel_rfl) (by kernel_rfl) ?steps ?fin
      case steps =>
        refine StepsAt.val 0 (.agg #[v8]) rfl (fun _ _ => rfl) rfl rfl (fun x wz hb hd => ?_) ?_
        · have cc := ((UX8.out.below hb UX8.out.lt).cell 0).trans (show _ = some (v8) from rfl)
          first | (go_simp; done) | (go_simp; rfl)
        refine StepsAt.cons 1 (fun _ _ _ h hb => h.keep hb) (fun _ _ => rfl) rfl rfl (fun x wz hb hd K hK => ?_) ?_
        · have h0 : Hid (x 0 = .agg #[v8]) := hd 0 (by kernel_rfl)
          go_simp
          refine calls_args (args2 := #[.agg #[v8]]) (by rw [h0.out]) ?_
          refine (plainW_any L1 v8 _ ((UR8.out.below hb).more hb.size) (by have := LL1.out; omega)).mono ?_
          rintro e w99 ⟨v99, rfl, hrd, hb99⟩
          exact hK.out _ _ hb99 ⟨v99, rfl, hrd⟩
        refine StepsAt.val 2 (.agg #[vXA]) rfl (fun _ _ => rfl) rfl rfl (fun x wz hb hd => ?_) ?_
        · have cc := ((UXA.out.below hb UXA.out.lt).cell 0).trans (show _ = some (vXA) from rfl)
          first | (go_simp; done) | (go_simp; rfl)
        refine StepsAt.cons 3 (fun _ _ _ h hb => h) (fun _ _ => rfl) rfl rfl (fun x wz hb hd K hK => ?_) ?_
        · have h2 : Hid (x 2 = .agg #[vXA]) := hd 2 (by kernel_rfl)
          have h1 : PlainW L1 (x 1) wz := hd 1 (by kernel_rfl)
          go_simp
          obtain ⟨v99, hv99, hr99⟩ := h1
          refine calls_args (args2 := #[.agg #[v99], .agg #[vXA]]) (by rw [hv99, h2.out]) ?_
          refine (rfSameWIs L1 L1 true (sameW_self _) v99 vXA _ hr99 ((URA.out.below hb).more hb.size)).mono ?_
          rintro e w99 ⟨rfl, hb99⟩
          exact hK.out _ _ hb99 rfl
        refine StepsAt.val 4 (.bool false) rfl (fun _ _ => rfl) rfl rfl (fun x wz hb hd => ?_) ?_
        · have h3 : x 3 = .bool true := hd 3 (by kernel_rfl)
          rw [h3]
          first | (go_simp; done) | (go_simp; rfl)
        refine StepsAt.val 5 (.bool false) rfl (fun _ _ => rfl) rfl rfl (fun x wz hb hd => ?_) ?_
        · have h4 : x 4 = .bool false := hd 4 (by kernel_rfl)
          rw [h4]
          first | (go_simp; done) | (go_simp; rfl)
        refine StepsAt.valG 6 (.int IntKind.i64 ↑f1) rfl (fun _ _ => rfl) rfl (fun x wz hd => ?_) (fun x wz hb hd => ?_) ?_
        · have hG : x 5 = .bool false := hd 5 (by kernel_rfl)
          simp [Region.wanted, yielded, hG]
        · first | (go_simp; done) | (go_simp; rfl)
        refine StepsAt.valG 7 (.int IntKind.i64 ↑f1) rfl (fun _ _ => rfl) rfl (fun x wz hd => ?_) (fun x wz hb hd => ?_) ?_
        · have hG : x 5 = .bool false := hd 5 (by kernel_rfl)
          simp [Region.wanted, yielded, hG]
        · first | (go_simp; done) | (go_simp; rfl)
        refine StepsAt.valG 8 (.bool false) rfl (fun _ _ => rfl) rfl (fun x wz hd => ?_) (fun x wz hb hd => ?_) ?_
        · have hG : x 5 = .bool false := hd 5 (by kernel_rfl)
          simp [Region.wanted, yielded, hG]
        · have h6 : x 6 = .int IntKind.i64 ↑f1 := hd 6 (by kernel_rfl)
          have h7 : x 7 = .int IntKind.i64 ↑f1 := hd 7 (by kernel_rfl)
          rw [h6, h7]
          first | (go_simp; done) | (go_simp; rfl) | (go_simp; simp)
        refine StepsAt.val 9 (.bool false) rfl (fun _ _ => rfl) rfl rfl (fun x wz hb hd => ?_) ?_
        · have h5 : x 5 = .bool false := hd 5 (by kernel_rfl)
          have h8 : x 8 = .bool false := hd 8 (by kernel_rfl)
          rw [h5, h8]
          first | (go_simp; done) | (go_simp; rfl)
        refine StepsAt.val 10 (.bool false) rfl (fun _ _ => rfl) rfl rfl (fun x wz hb hd => ?_) ?_
        · have h9 : x 9 = .bool false := hd 9 (by kernel_rfl)
          rw [h9]
          first | (go_simp; done) | (go_simp; rfl)
        refine StepsAt.valG 11 (.agg #[vC]) rfl (fun _ _ => rfl) rfl (fun x wz hd => ?_) (fun x wz hb hd => ?_) ?_
        · have hG : x 10 = .bool false := hd 10 (by kernel_rfl)
          simp [Region.wanted, yielded, hG]
        · have cc := ((UXC.out.below hb UXC.out.lt).cell 0).trans (show _ = some (vC) from rfl)
          first | (go_simp; done) | (go_simp; rfl)
        refine StepsAt.consG 12 (fun _ _ _ h hb => h.keep hb) (fun _ _ => rfl) rfl (fun x wz hd => ?_) (fun x wz hb hd K hK => ?_) ?_
        · have hG : x 10 = .bool false := hd 10 (by kernel_rfl)
          simp [Region.wanted, yielded, hG]
        · have h11 : Hid (x 11 = .agg #[vC]) := hd 11 (by kernel_rfl)
          go_simp
          refine calls_args (args2 := #[.agg #[vC]]) (by rw [h11.out]) ?_
          refine (plainW_any L2 vC _ ((URC.out.below hb).more hb.size) (by have := LL2.out.1; omega)).mono ?_
          rintro e w99 ⟨v99, rfl, hrd, hb99⟩
          exact hK.out _ _ hb99 ⟨v99, rfl, hrd⟩
        refine StepsAt.valG 13 (.agg #[vXE]) rfl (fun _ _ => rfl) rfl (fun x wz hd => ?_) (fun x wz hb hd => ?_) ?_
        · have hG : x 10 = .bool false := hd 10 (by kernel_rfl)
          simp [Region.wanted, yielded, hG]
        · have cc := ((UXE.out.below hb UXE.out.lt).cell 0).trans (show _ = some (vXE) from rfl)
          first | (go_simp; done) | (go_simp; rfl)
        refine StepsAt.consG 14 (fun _ _ _ h hb => h) (fun _ _ => rfl) rfl (fun x wz hd => ?_) (fun x wz hb hd K hK => ?_) ?_
        · have hG : x 10 = .bool false := hd 10 (by kernel_rfl)
          simp [Region.wanted, yielded, hG]
        · have h13 : Hid (x 13 = .agg #[vXE]) := hd 13 (by kernel_rfl)
          have h12 : PlainW L2 (x 12) wz := hd 12 (by kernel_rfl)
          go_simp
          obtain ⟨v99, hv99, hr99⟩ := h12
          refine calls_args (args2 := #[.agg #[v99], .agg #[vXE]]) (by rw [hv99, h13.out]) ?_
          refine (rfSameWIs L2 L2 true (sameW_self _) v99 vXE _ hr99 ((URE.out.below hb).more hb.size)).mono ?_
          rintro e w99 ⟨rfl, hb99⟩
          exact hK.out _ _ hb99 rfl
        refine StepsAt.valG 15 (.bool false) rfl (fun _ _ => rfl) rfl (fun x wz hd => ?_) (fun x wz hb hd => ?_) ?_
        · have hG : x 10 = .bool false := hd 10 (by kernel_rfl)
          simp [Region.wanted, yielded, hG]
        · have h14 : x 14 = .bool true := hd 14 (by kernel_rfl)
          rw [h14]
          first | (go_simp; done) | (go_simp; rfl)
        refine StepsAt.val 16 (.bool false) rfl (fun _ _ => rfl) rfl rfl (fun x wz hb hd => ?_) ?_
        · have h10 : x 10 = .bool false := hd 10 (by kernel_rfl)
          have h15 : x 15 = .bool false := hd 15 (by kernel_rfl)
          rw [h10, h15]
          first | (go_simp; done) | (go_simp; rfl)
        exact StepsAt.done
      case fin =>
        intro xz wz hb hd
        have hx0 : xz 0 = .agg #[v8] := hd 0 (by omega)
        have hx2 : xz 2 = .agg #[vXA] := hd 2 (by omega)
        have hx3 : xz 3 = .bool true := hd 3 (by omega)
        have hx4 : xz 4 = .bool false := hd 4 (by omega)
        have hx5 : xz 5 = .bool false := hd 5 (by omega)
        have hx6 : xz 6 = .int IntKind.i64 ↑f1 := hd 6 (by omega)
        have hx7 : xz 7 = .int IntKind.i64 ↑f1 := hd 7 (by omega)
        have hx8 : xz 8 = .bool false := hd 8 (by omega)
        have hx9 : xz 9 = .bool false := hd 9 (by omega)
        have hx10 : xz 10 = .bool false := hd 10 (by omega)
        have hx11 : xz 11 = .agg #[vC] := hd 11 (by omega)
        have hx13 : xz 13 = .agg #[vXE] := hd 13 (by omega)
        have hx14 : xz 14 = .bool true := hd 14 (by omega)
        have hx15 : xz 15 = .bool false := hd 15 (by omega)
        have hx16 : xz 16 = .bool false := hd 16 (by omega)
        refine AnyTill.any (S := fun _ => True) (m := 17) _ _ _ _ ?_
        refine AnyTill.done (by kernel_rfl) ?_
        refine NoPanic.normal ?_
        try dsimp only
        rw [hx0, hx2, hx3, hx4, hx5, hx6, hx7, hx8, hx9, hx10, hx11, hx13, hx14, hx15, hx16]
        have ER8 := Lib.hid hb
        clear hx0 hx2 hx3 hx4 hx5 hx6 hx7 hx8 hx9 hx10 hx11 hx13 hx14 hx15 hx16 hd hb
        have P10_w := Lib.hid (P9_w.out.trans (ER8.out.mono P9_w.out.size))
        clear P9_w
        have P10_y0 := Lib.hid (P9_y0.out.trans (ER8.out.mono P9_y0.out.size))
        clear P9_y0
        have P10_y1 := Lib.hid (P9_y1.out.trans (ER8.out.mono P9_y1.out.size))
        clear P9_y1
        have P10_W1 := Lib.hid (P9_W1.out.trans (ER8.out.mono P9_W1.out.size))
        clear P9_W1
        have P10_W2 := Lib.hid (P9_W2.out.trans (ER8.out.mono P9_W2.out.size))
        clear P9_W2
        have P10_W3 := Lib.hid (P9_W3.out.trans (ER8.out.mono P9_W3.out.size))
        clear P9_W3
        have P10_W4 := Lib.hid (P9_W4.out.trans (ER8.out.mono P9_W4.out.size))
        clear P9_W4
        have P10_W5 := Lib.hid (P9_W5.out.trans (ER8.out.mono P9_W5.out.size))
        clear P9_W5
        have P10_W6 := Lib.hid (P9_W6.out.trans (ER8.out.mono P9_W6.out.size))
        clear P9_W6
        have P10_W7 := Lib.hid (P9_W7.out.trans (ER8.out.mono P9_W7.out.size))
        clear P9_W7
        have P10_W8 := Lib.hid (E9.out.trans (ER8.out.mono E9.out.size))
        go_wp2
        have TX0 := Lib.hid (X0.out.below P10_y0.out X0.out.lt)
        have TXQ := Lib.hid (XQ.out.below P10_y1.out XQ.out.lt)
        have TXW := Lib.hid (XW.out.below P10_W5.out XW.out.lt)
        have THR := Lib.hid ((HR.out.below P10_w.out).more P10_w.out.size)
        have TRW := Lib.hid ((RW.out.below P10_W5.out).more P10_W5.out.size)
        have TSC := Lib.hid ((SC.out.below P10_W8.out).more P10_W8.out.size)
        have TSE := Lib.hid ((SE.out.below ER8.out).more ER8.out.size)
        obtain ⟨L3, hL3⟩ : ∃ q1, cancelW l (wC q) = q1 := ⟨_, rfl⟩
        have HL3 := Lib.hid hL3
        have LL3 : Hid (L3.length ≤ 60) := by
          show _ ≤ _
          have h1 := List.length_filter_le (fun w => decide (wC w ≠ wC q)) l
          have h2 := HL.out
          have h3 : (cancelW l (wC q)).length ≤ l.length := h1
          rw [hL3] at h3
          omega
        clear hL3
        refine wp_region_rely2 26 0 (fun x => ⟨#[.agg #[v], .agg (wac q).toArray, u, .pointer (some { block := gb0, off := 0 }), .pointer (some { block := gb1, off := 0 }), undef, x 25, .pointer (some { block := vg5, off := 0 }), .pointer (some { block := vg6, off := 0 }), .int IntKind.i64 ↑f1, .pointer (some { block := gXA, off := 0 }), .int IntKind.i64 ↑f1, .pointer (some { block := vg8, off := 0 }), uC, .pointer (some { block := gXE, off := 0 }), uXE, .agg #[v], .bool true, .bool false, .bool false, .agg #[v], .agg #[vp], .bool true, .bool false, .bool false, .bool false, .pointer (some { block := gb1, off := 0 }), txt (wP q), .int IntKind.i64 ↑kp, .bool (decide ((300 : Int) < (kp : Int))), .bool (decide ((300 : Int) < (kp : Int))), .bool (decide ((300 : Int) < (kp : Int))), u, .bool true, .bool false, .bool (decide ((300 : Int) < (kp : Int))), undef, .agg #[v], .agg #[vw], .tuple #[Value.agg #[v8], Value.int IntKind.i64 ↑f1], .agg #[v], .agg #[txt (wP q), Value.int IntKind.i64 (wC q), Value.bool (wK q)], .tuple #[Value.agg #[v8], Value.int IntKind.i64 ↑f1], .agg #[v8], .int IntKind.i64 ↑f1, xXA 4, xXA 0, xXA 1, xXA 2, xXA 3, .agg #[vXA], .int IntKind.i64 ↑f1, .tuple #[Value.agg #[vC], uC], .agg #[v], u, .tuple #[Value.agg #[vC], uC], .agg #[vC], uC, xXE 4, xXE 0, xXE 1, xXE 2, xXE 3, .agg #[vXE], uXE, .agg #[v8], xz 1, .agg #[vXA], .bool true, .bool false, .bool false, .int IntKind.i64 ↑f1, .int IntKind.i64 ↑f1, .bool false, .bool false, .bool false, .agg #[vC], xz 12, .agg #[vXE], .bool true, .bool false, .bool false, x 0, x 1, x 2, x 3, x 4, x 5, x 6, x 7, x 8, x 9, x 10, x 11, x 12, x 13, x 14, x 15, x 16, x 17, x 18, x 19, x 20, x 21, x 22, x 23, x 24], []⟩) (fun jj => ([(eqV (.bool true)), eqV (.bool true), eqV (uC), (RowP EvK E2), eqV (uXE), (eqV (.bool true)), eqV (.bool true), eqV (.bool true), eqV (.agg #[v]), eqV (.pointer (some ⟨gb1, 1, none⟩)), eqV (.int .i64 (wC q)), (PlainW L3), (PlainW L3), eqV (.agg #[vw]), eqV (.pointer (some ⟨gb1, 1, none⟩)), eqV (.int .i64 (wC q)), (PlainW L3), (eqV (.bool true)), eqV (.bool true), eqV (.bool true), eqV (.agg #[v]), (PlainW l), eqV (.agg #[vw]), (eqV (.bool true)), eqV (.bool true), eqV (.bool true)] : List (Value → World → Prop)).getD jj (fun _ _ => True)) rfl ⟨fun kk => [_, _, _, _, _, _, _, _, _, _, _, _, _, _, _, _, _, _, _, _, _, _, _, _, _, _].getD kk undef, rfl⟩ (by kernel_rfl) (by kernel_rfl) ?steps ?fin
        case steps =>
          refine StepsAt.cons 0 (fun _ _ _ h hb => h) (fun _ _ => rfl) rfl rfl (fun x wt hb hd K hK => ?_) ?_
          · go_simp
            refine (alive11 _).mono ?_
            rintro e w99 ⟨rfl, hb99⟩
            exact hK.out _ _ hb99 rfl
          refine StepsAt.val 1 (.bool true) rfl (fun _ _ => rfl) rfl rfl (fun x wt hb hd => ?_) ?_
          · have h0 : x 0 = .bool true := hd 0 (by kernel_rfl)
            rw [h0]
            first | (go_simp; done) | (go_simp; rfl)
          refine StepsAt.valG 2 (uC) rfl (fun _ _ => rfl) rfl (fun x wt hd => ?_) (fun x wt hb hd => ?_) ?_
          · have hG : x 1 = .bool true := hd 1 (by kernel_rfl)
            simp [Region.wanted, yielded, hG]
          · first | (go_simp; done) | (go_simp; rfl)
          refine StepsAt.consG 3 (fun _ _ _ h hb => h.keep hb) (fun _ _ => rfl) rfl (fun x wt hd => ?_) (fun x wt hb hd K hK => ?_) ?_
          · have hG : x 1 = .bool true := hd 1 (by kernel_rfl)
            simp [Region.wanted, yielded, hG]
          · have h2 : Hid (x 2 = uC) := hd 2 (by kernel_rfl)
            go_simp
            refine calls_args (args2 := #[uC]) (by rw [h2.out]) ?_
            refine (eventsW_any E2 uC _ ((TSC.out.below hb).more hb.size) (by have := LL2.out.2; omega)).mono ?_
            rintro e w99 ⟨v99, rfl, hrd, hb99⟩
            exact hK.out _ _ hb99 hrd
          refine StepsAt.valG 4 (uXE) rfl (fun _ _ => rfl) rfl (fun x wt hd => ?_) (fun x wt hb hd => ?_) ?_
          · have hG : x 1 = .bool true := hd 1 (by kernel_rfl)
            simp [Region.wanted, yielded, hG]
          · first | (go_simp; done) | (go_simp; rfl)
          refine StepsAt.consG 5 (fun _ _ _ h hb => h) (fun _ _ => rfl) rfl (fun x wt hd => ?_) (fun x wt hb hd K hK => ?_) ?_
          · have hG : x 1 = .bool true := hd 1 (by kernel_rfl)
            simp [Region.wanted, yielded, hG]
          · have h4 : Hid (x 4 = uXE) := hd 4 (by kernel_rfl)
            have h3 : RowP EvK E2 (x 3) wt := hd 3 (by kernel_rfl)
            go_simp
            refine calls_args (args2 := #[x 3, uXE]) (by rw [h4.out]) ?_
            refine (rfEventsIs E2 (x 3) uXE _ h3 ((TSE.out.below hb).more hb.size)).mono ?_
            rintro e w99 ⟨rfl, hb99⟩
            exact hK.out _ _ hb99 rfl
          refine StepsAt.val 6 (.bool true) rfl (fun _ _ => rfl) rfl rfl (fun x wt hb hd => ?_) ?_
          · have h1 : x 1 = .bool true := hd 1 (by kernel_rfl)
            have h5 : x 5 = .bool true := hd 5 (by kernel_rfl)
            rw [h1, h5]
            first | (go_simp; done) | (go_simp; rfl)
          refine StepsAt.val 7 (.bool true) rfl (fun _ _ => rfl) rfl rfl (fun x wt hb hd => ?_) ?_
          · have h6 : x 6 = .bool true := hd 6 (by kernel_rfl)
            rw [h6]
            first | (go_simp; done) | (go_simp; rfl)
          refine StepsAt.valG 8 (.agg #[v]) rfl (fun _ _ => rfl) rfl (fun x wt hd => ?_) (fun x wt hb hd => ?_) ?_
          · have hG : x 7 = .bool true := hd 7 (by kernel_rfl)
            simp [Region.wanted, yielded, hG]
          · have cc := ((TX0.out.below hb TX0.out.lt).cell 0).trans (show _ = some (v) from rfl)
            first | (go_simp; done) | (go_simp; rfl)
          refine StepsAt.valG 9 (.pointer (some ⟨gb1, 1, none⟩)) rfl (fun _ _ => rfl) rfl (fun x wt hd => ?_) (fun x wt hb hd => ?_) ?_
          · have hG : x 7 = .bool true := hd 7 (by kernel_rfl)
            simp [Region.wanted, yielded, hG]
          · first | (go_simp; done) | (go_simp; rfl)
          refine StepsAt.valG 10 (.int .i64 (wC q)) rfl (fun _ _ => rfl) rfl (fun x wt hd => ?_) (fun x wt hb hd => ?_) ?_
          · have hG : x 7 = .bool true := hd 7 (by kernel_rfl)
            simp [Region.wanted, yielded, hG]
          · have h9 : x 9 = .pointer (some ⟨gb1, 1, none⟩) := hd 9 (by kernel_rfl)
            have cd := ((TXQ.out.below hb TXQ.out.lt).at_ 1 _ rfl)
            rw [h9]
            first | (go_simp; done) | (go_simp; rfl)
          refine StepsAt.consG 11 (fun _ _ _ h hb => h.keep hb) (fun _ _ => rfl) rfl (fun x wt hd => ?_) (fun x wt hb hd K hK => ?_) ?_
          · have hG : x 7 = .bool true := hd 7 (by kernel_rfl)
            simp [Region.wanted, yielded, hG]
          · have h8 : Hid (x 8 = .agg #[v]) := hd 8 (by kernel_rfl)
            have h10 : Hid (x 10 = .int .i64 (wC q)) := hd 10 (by kernel_rfl)
            go_simp
            refine calls_args (args2 := #[.agg #[v], .int .i64 (wC q)]) (by rw [h8.out, h10.out]) ?_
            have ha := waCancel_any l (wC q) v _ ((THR.out.below hb).more hb.size) HRT.out
            rw [HL3.out] at ha
            refine ha.mono ?_
            rintro e w99 ⟨v99, rfl, hrd, hb99⟩
            exact hK.out _ _ hb99 ⟨v99, rfl, hrd⟩
          refine StepsAt.consG 12 (fun _ _ _ h hb => h.keep hb) (fun _ _ => rfl) rfl (fun x wt hd => ?_) (fun x wt hb hd K hK => ?_) ?_
          · have hG : x 7 = .bool true := hd 7 (by kernel_rfl)
            simp [Region.wanted, yielded, hG]
          · have h11 : PlainW L3 (x 11) wt := hd 11 (by kernel_rfl)
            go_simp
            obtain ⟨v98, hv98, hr98⟩ := h11
            refine calls_args (args2 := #[.agg #[v98]]) (by rw [hv98]) ?_
            refine (plainW_any L3 v98 _ hr98 (by have := LL3.out; omega)).mono ?_
            rintro e w99 ⟨v99, rfl, hrd, hb99⟩
            exact hK.out _ _ hb99 ⟨v99, rfl, hrd⟩
          refine StepsAt.valG 13 (.agg #[vw]) rfl (fun _ _ => rfl) rfl (fun x wt hd => ?_) (fun x wt hb hd => ?_) ?_
          · have hG : x 7 = .bool true := hd 7 (by kernel_rfl)
            simp [Region.wanted, yielded, hG]
          · have cc := ((TXW.out.below hb TXW.out.lt).cell 0).trans (show _ = some (vw) from rfl)
            first | (go_simp; done) | (go_simp; rfl)
          refine StepsAt.valG 14 (.pointer (some ⟨gb1, 1, none⟩)) rfl (fun _ _ => rfl) rfl (fun x wt hd => ?_) (fun x wt hb hd => ?_) ?_
          · have hG : x 7 = .bool true := hd 7 (by kernel_rfl)
            simp [Region.wanted, yielded, hG]
          · first | (go_simp; done) | (go_simp; rfl)
          refine StepsAt.valG 15 (.int .i64 (wC q)) rfl (fun _ _ => rfl) rfl (fun x wt hd => ?_) (fun x wt hb hd => ?_) ?_
          · have hG : x 7 = .bool true := hd 7 (by kernel_rfl)
            simp [Region.wanted, yielded, hG]
          · have h14 : x 14 = .pointer (some ⟨gb1, 1, none⟩) := hd 14 (by kernel_rfl)
            have cd := ((TXQ.out.below hb TXQ.out.lt).at_ 1 _ rfl)
            rw [h14]
            first | (go_simp; done) | (go_simp; rfl)
          refine StepsAt.consG 16 (fun _ _ _ h hb => h.keep hb) (fun _ _ => rfl) rfl (fun x wt hd => ?_) (fun x wt hb hd K hK => ?_) ?_
          · have hG : x 7 = .bool true := hd 7 (by kernel_rfl)
            simp [Region.wanted, yielded, hG]
          · have h13 : Hid (x 13 = .agg #[vw]) := hd 13 (by kernel_rfl)
            have h15 : Hid (x 15 = .int .i64 (wC q)) := hd 15 (by kernel_rfl)
            go_simp
            refine calls_args (args2 := #[.agg #[vw], .int .i64 (wC q)]) (by rw [h13.out, h15.out]) ?_
            have ha := rfCancelW_any l (wC q) vw _ ((TRW.out.below hb).more hb.size) (by have := HL.out; omega)
            rw [HL3.out] at ha
            refine ha.mono ?_
            rintro e w99 ⟨v99, rfl, hrd, hb99⟩
            exact hK.out _ _ hb99 ⟨v99, rfl, hrd⟩
          refine StepsAt.consG 17 (fun _ _ _ h hb => h) (fun _ _ => rfl) rfl (fun x wt hd => ?_) (fun x wt hb hd K hK => ?_) ?_
          · have hG : x 7 = .bool true := hd 7 (by kernel_rfl)
            simp [Region.wanted, yielded, hG]
          · have h12 : PlainW L3 (x 12) wt := hd 12 (by kernel_rfl)
            have h16 : PlainW L3 (x 16) wt := hd 16 (by kernel_rfl)
            go_simp
            obtain ⟨v98, hv98, hr98⟩ := h12
            obtain ⟨v99, hv99, hr99⟩ := h16
            refine calls_args (args2 := #[.agg #[v98], .agg #[v99]]) (by rw [hv98, hv99]) ?_
            refine (rfSameWIs L3 L3 true (sameW_self _) v98 v99 _ hr98 hr99).mono ?_
            rintro e w99 ⟨rfl, hb99⟩
            exact hK.out _ _ hb99 rfl
          refine StepsAt.val 18 (.bool true) rfl (fun _ _ => rfl) rfl rfl (fun x wt hb hd => ?_) ?_
          · have h7 : x 7 = .bool true := hd 7 (by kernel_rfl)
            have h17 : x 17 = .bool true := hd 17 (by kernel_rfl)
            rw [h7, h17]
            first | (go_simp; done) | (go_simp; rfl)
          refine StepsAt.val 19 (.bool true) rfl (fun _ _ => rfl) rfl rfl (fun x wt hb hd => ?_) ?_
          · have h18 : x 18 = .bool true := hd 18 (by kernel_rfl)
            rw [h18]
            first | (go_simp; done) | (go_simp; rfl)
          refine StepsAt.valG 20 (.agg #[v]) rfl (fun _ _ => rfl) rfl (fun x wt hd => ?_) (fun x wt hb hd => ?_) ?_
          · have hG : x 19 = .bool true := hd 19 (by kernel_rfl)
            simp [Region.wanted, yielded, hG]
          · have cc := ((TX0.out.below hb TX0.out.lt).cell 0).trans (show _ = some (v) from rfl)
            first | (go_simp; done) | (go_simp; rfl)
          refine StepsAt.consG 21 (fun _ _ _ h hb => h.keep hb) (fun _ _ => rfl) rfl (fun x wt hd => ?_) (fun x wt hb hd K hK => ?_) ?_
          · have hG : x 19 = .bool true := hd 19 (by kernel_rfl)
            simp [Region.wanted, yielded, hG]
          · have h20 : Hid (x 20 = .agg #[v]) := hd 20 (by kernel_rfl)
            go_simp
            refine calls_args (args2 := #[.agg #[v]]) (by rw [h20.out]) ?_
            refine (plainW_any l v _ ((THR.out.below hb).more hb.size) (by have := HL.out; omega)).mono ?_
            rintro e w99 ⟨v99, rfl, hrd, hb99⟩
            exact hK.out _ _ hb99 ⟨v99, rfl, hrd⟩
          refine StepsAt.valG 22 (.agg #[vw]) rfl (fun _ _ => rfl) rfl (fun x wt hd => ?_) (fun x wt hb hd => ?_) ?_
          · have hG : x 19 = .bool true := hd 19 (by kernel_rfl)
            simp [Region.wanted, yielded, hG]
          · have cc := ((TXW.out.below hb TXW.out.lt).cell 0).trans (show _ = some (vw) from rfl)
            first | (go_simp; done) | (go_simp; rfl)
          refine StepsAt.consG 23 (fun _ _ _ h hb => h) (fun _ _ => rfl) rfl (fun x wt hd => ?_) (fun x wt hb hd K hK => ?_) ?_
          · have hG : x 19 = .bool true := hd 19 (by kernel_rfl)
            simp [Region.wanted, yielded, hG]
          · have h22 : Hid (x 22 = .agg #[vw]) := hd 22 (by kernel_rfl)
            have h21 : PlainW l (x 21) wt := hd 21 (by kernel_rfl)
            go_simp
            obtain ⟨v99, hv99, hr99⟩ := h21
            refine calls_args (args2 := #[.agg #[v99], .agg #[vw]]) (by rw [hv99, h22.out]) ?_
            refine (rfSameWIs l l true (sameW_self _) v99 vw _ hr99 ((TRW.out.below hb).more hb.size)).mono ?_
            rintro e w99 ⟨rfl, hb99⟩
            exact hK.out _ _ hb99 rfl
          refine StepsAt.val 24 (.bool true) rfl (fun _ _ => rfl) rfl rfl (fun x wt hb hd => ?_) ?_
          · have h19 : x 19 = .bool true := hd 19 (by kernel_rfl)
            have h23 : x 23 = .bool true := hd 23 (by kernel_rfl)
            rw [h19, h23]
            first | (go_simp; done) | (go_simp; rfl)
          refine StepsAt.val 25 (.bool true) rfl (fun _ _ => rfl) rfl rfl (fun x wt hb hd => ?_) ?_
          · have h24 : x 24 = .bool true := hd 24 (by kernel_rfl)
            rw [h24]
            first | (go_simp; done) | (go_simp; rfl)
          exact StepsAt.done
        case fin =>
          intro x wt hb hd
          have hx0 : x 0 = .bool true := hd 0 (by omega)
          have hx1 : x 1 = .bool true := hd 1 (by omega)
          have hx2 : x 2 = uC := hd 2 (by omega)
          have hx4 : x 4 = uXE := hd 4 (by omega)
          have hx5 : x 5 = .bool true := hd 5 (by omega)
          have hx6 : x 6 = .bool true := hd 6 (by omega)
          have hx7 : x 7 = .bool true := hd 7 (by omega)
          have hx8 : x 8 = .agg #[v] := hd 8 (by omega)
          have hx9 : x 9 = .pointer (some ⟨gb1, 1, none⟩) := hd 9 (by omega)
          have hx10 : x 10 = .int .i64 (wC q) := hd 10 (by omega)
          have hx13 : x 13 = .agg #[vw] := hd 13 (by omega)
          have hx14 : x 14 = .pointer (some ⟨gb1, 1, none⟩) := hd 14 (by omega)
          have hx15 : x 15 = .int .i64 (wC q) := hd 15 (by omega)
          have hx17 : x 17 = .bool true := hd 17 (by omega)
          have hx18 : x 18 = .bool true := hd 18 (by omega)
          have hx19 : x 19 = .bool true := hd 19 (by omega)
          have hx20 : x 20 = .agg #[v] := hd 20 (by omega)
          have hx22 : x 22 = .agg #[vw] := hd 22 (by omega)
          have hx23 : x 23 = .bool true := hd 23 (by omega)
          have hx24 : x 24 = .bool true := hd 24 (by omega)
          have hx25 : x 25 = .bool true := hd 25 (by omega)
          refine AnyTill.any (S := fun _ => True) (m := 26) _ _ _ _ ?_
          refine AnyTill.done (by kernel_rfl) ?_
          refine NoPanic.normal ?_
          try dsimp only
          rw [hx0, hx1, hx2, hx4, hx5, hx6, hx7, hx8, hx9, hx10, hx13, hx14, hx15, hx17, hx18, hx19, hx20, hx22, hx23, hx24, hx25]
          have ER10 := Lib.hid hb
          clear hx0 hx1 hx2 hx4 hx5 hx6 hx7 hx8 hx9 hx10 hx13 hx14 hx15 hx17 hx18 hx19 hx20 hx22 hx23 hx24 hx25 hd hb
          have P11_w := Lib.hid (P10_w.out.trans (ER10.out.mono P10_w.out.size))
          clear P10_w
          have P11_y0 := Lib.hid (P10_y0.out.trans (ER10.out.mono P10_y0.out.size))
          clear P10_y0
          have P11_y1 := Lib.hid (P10_y1.out.trans (ER10.out.mono P10_y1.out.size))
          clear P10_y1
          have P11_W1 := Lib.hid (P10_W1.out.trans (ER10.out.mono P10_W1.out.size))
          clear P10_W1
          have P11_W2 := Lib.hid (P10_W2.out.trans (ER10.out.mono P10_W2.out.size))
          clear P10_W2
          have P11_W3 := Lib.hid (P10_W3.out.trans (ER10.out.mono P10_W3.out.size))
          clear P10_W3
          have P11_W4 := Lib.hid (P10_W4.out.trans (ER10.out.mono P10_W4.out.size))
          clear P10_W4
          have P11_W5 := Lib.hid (P10_W5.out.trans (ER10.out.mono P10_W5.out.size))
          clear P10_W5
          have P11_W6 := Lib.hid (P10_W6.out.trans (ER10.out.mono P10_W6.out.size))
          clear P10_W6
          have P11_W7 := Lib.hid (P10_W7.out.trans (ER10.out.mono P10_W7.out.size))
          clear P10_W7
          have P11_W8 := Lib.hid (P10_W8.out.trans (ER10.out.mono P10_W8.out.size))
          clear P10_W8
          have P11_W9 := Lib.hid (ER8.out.trans (ER10.out.mono ER8.out.size))
          go_wp2
          go_ret
          exact ⟨rfl, P11_w.out⟩
end Go.Proofs.Ytmiomfonglmfjaa
