/-
  The padding of every number of bytes, as the program lays it: in memory of the call's own.
-/
import Derived.Test.YtnemkefmlffigaaGreatSa5
import Derived.Lib.MinMax
namespace Go.Proofs.YtnemkefmlffigaaGreat
open Go.RowKit

theorem info5 : (Tryz.prog.info? 5).map (fun i => (i.zero, i.size, i.bytes)) = some (some (.int .u8 0), 1, 1) := by kernel_rfl

/-- The call answers a slice of its own, from block 'base' on, with the bytes l; nothing below 'base' has changed. -/
def Gives (base : Nat) (l : List UInt8) (w : World) (e : Ending) (w' : World) : Prop := ∃ v, e = .returned v ∧ Own 5 w' base v l ∧ Below base w w'

/-- Padding whose last k bytes are laid. -/
def pr (Z C k : Nat) : List UInt8 := 128 :: (List.replicate (Z + 8 - k) 0 ++ be k C)
theorem pr_length (Z C k : Nat) (h : k ≤ 8) : (pr Z C k).length = 9 + Z := by simp [pr, be_length]; omega
theorem pr_zero (Z C L : Nat) (h : 9 + Z = L) : (bys (List.replicate L 0)).set 0 (.int .u8 128) = bys (pr Z C 0) := by
  subst h
  rw [show 9 + Z = (Z + 8) + 1 by omega]
  simp [pr, be, bys, List.replicate_succ]
theorem pr_set (Z C k : Nat) (h : k < 8) : (bys (pr Z C k)).set (8 + Z - k) (.int .u8 ((C : Int) / 2 ^ (8 * k) % 256)) = bys (pr Z C (k + 1)) := by
  have hb := byte_shift (C : Int) k (by omega)
  rw [Int.toNat_natCast] at hb
  rw [hb]
  obtain ⟨m, hm⟩ : ∃ m, Z + 8 - k = m + 1 := ⟨Z + 7 - k, by omega⟩
  have hm2 : Z + 8 - (k + 1) = m := by omega
  have hl : (bys (List.replicate m 0)).length = m := by simp [bys]
  unfold pr
  rw [hm, hm2, show 8 + Z - k = (m + 1) by omega, List.replicate_succ', List.append_assoc, be]
  show (bys ([128] ++ (List.replicate m 0 ++ ([0] ++ be k C)))).set (m + 1) _ = bys ([128] ++ (List.replicate m 0 ++ ([UInt8.ofNat (C / 256 ^ k)] ++ be k C)))
  simp only [bys_append]
  rw [List.set_append, if_neg (by simp [bys]), show m + 1 - (bys [128]).length = m by simp [bys], List.set_append, if_neg (by omega), hl, Nat.sub_self]
  rfl
theorem pr_full (N : Nat) : pr (zn N) (N * 8 % 18446744073709551616) 8 = padl N := by simp [pr, padl]

set_option maxHeartbeats 1000000 in
theorem pad_any (n : Int) (w : World) (h0 : -9223372036854775808 ≤ n) (h1 : n ≤ 9223372036854775807) : Calls Tryz.prog 118 #[.int .i64 n] w (Gives w.heap.size (padl n.toNat) w) := by
  obtain ⟨i0, hi, hz0, hz1, hz2⟩ := info_parts info5
  obtain ⟨N, hN⟩ : ∃ N : Nat, n.toNat = N := ⟨_, rfl⟩
  have hmax : max n 0 = (N : Int) := by omega
  have hN1 : (N : Int) ≤ 9223372036854775807 := by omega
  rw [hN]
  clear hN h0 h1
  have HI := Lib.hid hi
  have H0 := Lib.hid hz0
  have H1 := Lib.hid hz1
  have H2 := Lib.hid hz2
  clear hi hz0 hz1 hz2
  obtain ⟨F, hF⟩ : ∃ F : Nat, (N % 64 + 9) % 64 = F := ⟨_, rfl⟩
  obtain ⟨Z, hZ⟩ : ∃ Z : Nat, zn N = Z := ⟨_, rfl⟩
  have hZ' : (64 - F) % 64 = Z := by rw [← hZ, ← hF]; rfl
  obtain ⟨L, hL⟩ : ∃ L : Nat, 9 + Z = L := ⟨_, rfl⟩
  have e1 : ((N : Int) % 64 + 1 + 8) % 64 = (F : Int) := by omega
  have e2 : (64 - (F : Int)) % 64 = (Z : Int) := by omega
  have e3 : -(F : Int) % 64 = (Z : Int) := by omega
  have e4 : 1 + (Z : Int) + 8 = (L : Int) := by omega
  have l1 : F < 64 := by omega
  have l2 : Z < 64 := by omega
  have l3 : 9 ≤ L := by omega
  have l4 : L ≤ 72 := by omega
  obtain ⟨C, hC⟩ : ∃ C : Nat, N * 8 % 18446744073709551616 = C := ⟨_, rfl⟩
  have eC : IntKind.u64.wrap ((N : Int) * 8) = (C : Int) := by rw [IntKind.wrap_u64]; omega
  have HP : Hid (pr Z C 8 = padl N) := by show pr Z C 8 = padl N; rw [← hZ, ← hC]; exact pr_full N
  clear hC
  have HL := Lib.hid hL
  clear hF hZ hZ' hL
  go_enter Tryz.func118, Tryz.ntmps118
  go_wp2_with (at_make; refine wpList_make_full _ rfl _ _ 34 rfl w.heap.size 5 i0 (.int .u8 0) 1 Tryz.underlying34 HI.out H0.out H1.out _ _ _ _ L rfl rfl rfl rfl (by rw [H2.out]; omega) (by unfold maxLen; omega) (Nat.le_refl _) ?_)
  intro w1 hown hgrow
  have hb1 : Below w.heap.size w w1 := (Below.refl _ _).grown hgrow (Nat.le_refl _) (fun k hk => by cases hk)
  have HO : Hid (w1.ownsRow w.heap.size 5 1 (.slice (some ⟨w.heap.size, 0, none⟩) L L) L (bys (List.replicate L 0))) := by
    have h := hown
    rw [show (madeCells #[Value.int .u8 0] L).toList = bys (List.replicate L 0) by rw [toList_madeCells_one]; simp [bys]] at h
    exact h
  have HB := Lib.hid hb1
  clear hown hgrow hb1 e1 e2 e3 e4
  have c0 : ∃ v, w1.cell? ⟨w.heap.size, 0, none⟩ = some v := ⟨_, World.ownsRow.cells HO.out rfl 0 (.int .u8 0) (by obtain ⟨m, rfl⟩ : ∃ m, L = m + 1 := ⟨L - 1, by omega⟩; rfl)⟩
  obtain ⟨v0, c0⟩ := c0
  have f0 := World.ownsRow.frozenAt HO.out 0
  go_wp2
  clear eC
  have HO2 : Hid ((w1.setCell ⟨w.heap.size, 0, none⟩ (.int .u8 128)).ownsRow w.heap.size 5 1 (.slice (some ⟨w.heap.size, 0, none⟩) L L) L (bys (pr Z C 0))) := by
    have h := (World.ownsRow.stored HO.out 0 (.int .u8 128)).1
    rw [pr_zero Z C L HL.out] at h
    exact h
  have HB2 : Hid (Below w.heap.size w (w1.setCell ⟨w.heap.size, 0, none⟩ (.int .u8 128))) := HB.out.setCell (by simp) _
  clear c0 f0 HO HB
  go_loopw [27] (fun i wr => ∃ k : Nat, k ≤ 8 ∧ i = .int .i64 k ∧ Hid (wr.ownsRow w.heap.size 5 1 (.slice (some ⟨w.heap.size, 0, none⟩) L L) L (bys (pr Z C k))) ∧ Hid (Below w.heap.size w wr)) (fun i _ => 8 - (intOf i).toNat)
  case atStart => exact ⟨0, by omega, rfl, HO2, HB2⟩
  case round =>
    clear HO2 HB2
    obtain ⟨k, hk, rfl, HO, HB⟩ := hrel
    by_cases hk2 : k < 8
    · have zk : (k : Int) < 8 := by omega
      obtain ⟨v, c0⟩ : ∃ v, wr.cell? ⟨w.heap.size, L - 1 - k, none⟩ = some v := by
        have hl : (bys (pr Z C k)).length = L := by rw [bys_length, pr_length _ _ _ hk, HL.out]
        have h := World.ownsRow.cells HO.out rfl (L - 1 - k) _ (List.getElem?_eq_getElem (by omega))
        rw [Addr.add_mid, Nat.zero_add] at h
        exact ⟨_, h⟩
      have f0 := World.ownsRow.frozenAt HO.out (L - 1 - k)
      go_wp2
      go_roundw
      case rel =>
        refine ⟨k + 1, by omega, by go_num, ?_, HB.out.setCell (by simp) _⟩
        have h := (World.ownsRow.stored HO.out (L - 1 - k) (.int .u8 ((C : Int) / 2 ^ (8 * k) % 256))).1
        have hl := HL.out
        rw [show (bys (pr Z C k)).set (L - 1 - k) (.int .u8 ((C : Int) / 2 ^ (8 * k) % 256)) = bys (pr Z C (k + 1)) by rw [show L - 1 - k = 8 + Z - k by omega]; exact pr_set Z C k hk2] at h
        exact h
      case measure => simp [intOf]; omega
    · obtain rfl : k = 8 := by omega
      rw [show ((8 : Nat) : Int) = 8 from rfl]
      go_wp2
      go_ret
      refine ⟨_, rfl, ?_, HB.out⟩
      have h := HO.out
      rw [HP.out] at h
      unfold Own
      rw [show (padl N).length = L by rw [← HP.out, pr_length _ _ _ (by omega)]; exact HL.out]
      exact h
end Go.Proofs.YtnemkefmlffigaaGreat
