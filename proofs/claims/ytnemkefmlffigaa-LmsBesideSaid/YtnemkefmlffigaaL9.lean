/-
  Package lms: shapeWith, for every two types; the way up a tree, climb, for every input that it is called with.
-/
import Derived.Test.YtnemkefmlffigaaL8
namespace Go.Proofs.Ytnemkefmlffigaa
open Go.RowKit

/-- A width and a height of these types. -/
def LFit (D Y k h : Nat) : Prop := Wd k ∧ Ht h ∧ knd h = D ∧ typ k = Y
/-- What shapeWith answers. -/
def LShape (D Y : Nat) (w : World) (e : Ending) (w' : World) : Prop :=
  (∃ k h, LFit D Y k h ∧ TwoD (.agg (shl k h).toArray) (.int .i64 0) w e w') ∨ ((∀ k h, ¬ LFit D Y k h) ∧ TwoD (.agg shl0.toArray) (.int .i64 3) w e w')
/-- What its loops keep. -/
def SW (w : World) (g D Y K H : Nat) (wr : World) : Prop := Blk wr g shl0 74 ∧ Below w.heap.size w wr ∧ ∀ k h, LFit D Y k h → K < k ∨ (k = K ∧ H ≤ h)

set_option maxRecDepth 100000 in
set_option maxHeartbeats 2000000 in
theorem shapeWith_any (D Y : Nat) (w : World) : Calls Try.prog 74 #[.int .u32 (D : Int), .int .u32 (Y : Int)] w (LShape D Y w) := by
  obtain ⟨d74, hu74, hd74⟩ := row74
  have HU := Lib.hid hu74
  have HD := Lib.hid hd74
  clear hu74 hd74
  go_enter Try.func74, Try.ntmps74
  go_wp2_with (refine wpList_alloc_blk rfl 74 rfl _ zi74 ?_)
  intro w1 a1 a2 a3
  obtain ⟨g4, hg4⟩ : ∃ g, w.heap.size = g := ⟨_, rfl⟩
  have hwg : w.heap.size ≤ g4 := by omega
  have K0 : Hid (SW w g4 D Y 1 1 w1) := ⟨by rw [← hg4]; exact a1, a3, fun k h hf => by
    have h1 : 1 ≤ k := by rcases hf.1 with rfl | rfl | rfl | rfl <;> omega
    have h2 := hf.2.1.le
    omega⟩
  rw [hg4]
  clear a1 a2 a3 hg4
  go_wp2
  go_loopw [6] (fun x wr => ∃ K : Nat, (Wd K ∨ K = 16) ∧ x = .int .i64 (K : Int) ∧ Hid (SW w g4 D Y K 1 wr)) (fun x _ => 16 - (intOf x).toNat)
  case atStart => exact ⟨1, .inl (.inl rfl), rfl, K0⟩
  case round =>
    clear K0
    obtain ⟨K, hK, rfl, KK⟩ := hrel
    by_cases hK8 : K ≤ 8
    · have hKw : Wd K := by
        rcases hK with h | h
        · exact h
        · omega
      have HKW := Lib.hid hKw
      have zK : (K : Int) ≤ 8 := by omega
      clear hK hKw
      go_wp2
      go_loopw [7] (fun y wr => ∃ H : Nat, 1 ≤ H ∧ H ≤ 6 ∧ y = .int .i64 (H : Int) ∧ Hid (SW w g4 D Y K H wr)) (fun y _ => 6 - (intOf y).toNat)
      case atStart => exact ⟨1, by omega, by omega, rfl, KK⟩
      case round =>
        clear KK
        obtain ⟨H, hH1, hH6, rfl, LL⟩ := hrel
        by_cases hH5 : H ≤ 5
        · have HHT := Lib.hid (Ht.of hH1 hH5)
          have zH : (H : Int) ≤ 5 := by omega
          go_wp2_with fail
          refine (lshape_yes K H _ HKW.out HHT.out).mono ?_
          rintro e w2 ⟨rfl, hb⟩
          have LB : Hid (SW w g4 D Y K H w2) := ⟨LL.out.1.below hb LL.out.1.lt, LL.out.2.1.trans (hb.mono LL.out.2.1.size), LL.out.2.2⟩
          have hl4 : g4 < w2.heap.size := LB.out.1.lt
          clear hb LL
          go_wp2_with (refine wpList_alloc_blk rfl 74 rfl _ zi74 ?_)
          intro w3 a1 a2 a3
          obtain ⟨g8, hg8⟩ : ∃ g, w2.heap.size = g := ⟨_, rfl⟩
          have hw2 := LB.out.2.1.size
          rw [hg8] at a1 a2 a3 hl4 hw2 ⊢
          have A1 := Lib.hid a1
          obtain ⟨t3, ht3⟩ : ∃ t, w3.setRow g8 (shl K H).toArray = t := ⟨_, rfl⟩
          have N8 : Hid (Blk t3 g8 (shl K H) 74) := by rw [← ht3]; exact a1.setRow
          have NB : Hid (SW w g4 D Y K H t3) := ⟨by rw [← ht3]; exact (LB.out.1.below a3 hl4).setRowOther (by omega), by rw [← ht3]; exact below_setRow' (LB.out.2.1.trans (a3.mono hw2)) hw2 _, LB.out.2.2⟩
          obtain ⟨P, hP⟩ : ∃ P, knd H = P := ⟨_, rfl⟩
          obtain ⟨Q, hQ⟩ : ∃ Q, typ K = Q := ⟨_, rfl⟩
          have c0 : t3.cell? ⟨g8, 0, none⟩ = some (.int .u32 (P : Int)) := (N8.out.cell 0).trans (by rw [← hP]; rfl)
          have c1 : t3.cell? ⟨g8, 1, none⟩ = some (.int .u32 (Q : Int)) := (N8.out.cell 1).trans (by rw [← hQ]; rfl)
          have HPE := Lib.hid hP
          have HQE := Lib.hid hQ
          clear a1 a2 a3 LB hP hQ hg8
          by_cases hPD : P = D
          · by_cases hQY : Q = Y
            · have HF : Hid (LFit D Y K H) := ⟨HKW.out, HHT.out, by rw [HPE.out, hPD], by rw [HQE.out, hQY]⟩
              have z1 : ((P : Int) == (D : Int)) = true := by simp; omega
              have z2 : ((Q : Int) == (Y : Int)) = true := by simp; omega
              clear hPD hQY
              go_wp2_with (first | (refine wpList_store_blk rfl 74 _ _ rfl g8 (shl K H) shl0 74 rfl rfl A1.out s74 rfl (shl_one K H) ?_; rw [ht3]; clear ht3) | (refine wpList_load_blkU rfl 74 _ rfl g8 rfl (shl K H) 74 N8.out d74 HU.out HD.out s74 ?_) | (refine wpList_store_blk rfl 74 _ _ rfl g4 (shl K H) shl0 74 rfl rfl NB.out.1 s74 rfl (shl_one K H) ?_))
              refine bodyPost_ret (v := .tuple #[.agg (shl K H).toArray, .int .i64 0]) ?_ rfl ?_
              · exact ret_blk2U rfl _ _ g4 74 (shl K H) _ rfl rfl NB.out.1.setRow d74 HU.out HD.out s74
              · exact .inl ⟨K, H, HF.out, rfl, below_setRow' NB.out.2.1 hwg _⟩
            · have z1 : ((P : Int) == (D : Int)) = true := by simp; omega
              have z2 : ((Q : Int) == (Y : Int)) = false := by simp; omega
              have NN : Hid (SW w g4 D Y K (H + 1) t3) := ⟨NB.out.1, NB.out.2.1, fun k h hf => by
                rcases NB.out.2.2 k h hf with h1 | ⟨h1, h2⟩
                · exact .inl h1
                · refine .inr ⟨h1, ?_⟩
                  have : h ≠ H := fun e => hQY (by rw [← HQE.out, ← h1]; exact hf.2.2.2)
                  omega⟩
              clear NB
              go_wp2_with (first | (refine wpList_store_blk rfl 74 _ _ rfl g8 (shl K H) shl0 74 rfl rfl A1.out s74 rfl (shl_one K H) ?_; rw [ht3]; clear ht3))
              go_roundw
              case rel => exact ⟨H + 1, by omega, by omega, by go_num, NN⟩
              case measure => simp [intOf]; omega
          · have z1 : ((P : Int) == (D : Int)) = false := by simp; omega
            have NN : Hid (SW w g4 D Y K (H + 1) t3) := ⟨NB.out.1, NB.out.2.1, fun k h hf => by
                rcases NB.out.2.2 k h hf with h1 | ⟨h1, h2⟩
                · exact .inl h1
                · refine .inr ⟨h1, ?_⟩
                  have : h ≠ H := fun e => hPD (by rw [← HPE.out, ← e]; exact hf.2.2.1)
                  omega⟩
            clear NB
            go_wp2_with (first | (refine wpList_store_blk rfl 74 _ _ rfl g8 (shl K H) shl0 74 rfl rfl A1.out s74 rfl (shl_one K H) ?_; rw [ht3]; clear ht3))
            go_roundw
            case rel => exact ⟨H + 1, by omega, by omega, by go_num, NN⟩
            case measure => simp [intOf]; omega
        · have hH : H = 6 := by omega
          subst hH
          have NN : Hid (SW w g4 D Y (K * 2) 1 wr) := ⟨LL.out.1, LL.out.2.1, fun k h hf => by
            have h3 := hf.2.1.le
            have hk := HKW.out
            rcases LL.out.2.2 k h hf with h1 | ⟨h1, h2⟩
            · rcases hf.1 with rfl | rfl | rfl | rfl <;> rcases hk with rfl | rfl | rfl | rfl <;> omega
            · omega⟩
          have hKK : Wd (K * 2) ∨ K * 2 = 16 := by
            rcases HKW.out with rfl | rfl | rfl | rfl <;> simp [Wd]
          have hK0 : 0 < K := by rcases HKW.out with rfl | rfl | rfl | rfl <;> omega
          obtain ⟨K2, hK2⟩ : ∃ x, K * 2 = x := ⟨_, rfl⟩
          rw [hK2] at NN hKK
          have zz : (K : Int) * 2 = (K2 : Int) := by omega
          have hK16 : K2 ≤ 16 := by omega
          have hKlt : K < K2 := by omega
          have HKK := Lib.hid hKK
          clear hK2 LL hKK
          go_wp2
          go_roundw
          case rel => exact ⟨K2, HKK.out, by go_num, NN⟩
          case measure => simp [intOf]; omega
    · have hK16 : K = 16 := by
        rcases hK with h | h
        · rcases h with rfl | rfl | rfl | rfl <;> omega
        · exact h
      subst hK16
      have HNO : Hid (∀ k h, ¬ LFit D Y k h) := fun k h hf => by
        rcases KK.out.2.2 k h hf with h1 | ⟨h1, h2⟩ <;> rcases hf.1 with rfl | rfl | rfl | rfl <;> omega
      go_wp2_with (first | (refine wpList_store_blk rfl 74 _ _ rfl g4 shl0 shl0 74 rfl rfl KK.out.1 s74 rfl shl0_one ?_))
      refine bodyPost_ret (v := .tuple #[.agg shl0.toArray, .int .i64 3]) ?_ rfl ?_
      · exact ret_blk2U rfl _ _ g4 74 shl0 _ rfl rfl KK.out.1.setRow d74 HU.out HD.out s74
      · exact .inr ⟨HNO.out, rfl, below_setRow' KK.out.2.1 hwg _⟩
end Go.Proofs.Ytnemkefmlffigaa
