/-
  The statements on orders: an order and a reply as the document's, how long a reply's texts are. Each theorem states its own conditions.
-/
import Derived.Test.YtmlpiembglmggaaNI
namespace Go.Proofs.Ytmlpiembglmggaa
open Go.RowKit

theorem rowRpP : ∃ d, Try.prog.underlying 28 = some d ∧ d.isRow = true := ⟨_, Try.underlying28, rfl⟩
theorem szRpP : (Try.prog.info? 28).map (·.size) = some 6 := by kernel_rfl
theorem zeroRpP : (Try.prog.info? 28).map (·.zero) = some (some (.agg (rpc rp0 (.slice none 0 0)).toArray)) := by kernel_rfl
def sumS (l : List ByteArray) : Nat := l.foldr (fun s n => s.size + 9 + n) 0
/-- How many bytes the texts have, counted till there are too many. -/
def longL : List ByteArray → Int → Int
  | [], n => n
  | s :: t, n => if n ≤ 4000 then longL t (n + s.size + 9) else n
def longR (r : Rp) : Int := longL (pN r) (pV r).length
theorem longL_ge : ∀ (l : List ByteArray) (n : Int), n ≤ longL l n
  | [], _ => Int.le_refl _
  | s :: t, n => by
    unfold longL
    split
    · have h := longL_ge t (n + s.size + 9)
      omega
    · exact Int.le_refl _
theorem longL_sum : ∀ (l : List ByteArray) (n : Int), longL l n ≤ 4000 → longL l n = n + sumS l
  | [], n, _ => by simp [longL, sumS]
  | s :: t, n, h => by
    have h0 := longL_ge (s :: t) n
    have e : longL (s :: t) n = longL t (n + s.size + 9) := by
      rw [longL, if_pos (by omega)]
    rw [e] at h ⊢
    have h1 := longL_sum t _ h
    have h2 : sumS (s :: t) = s.size + 9 + sumS t := rfl
    rw [h1, h2]
    omega
theorem long_sum {r : Rp} {B : Int} (h : longR r ≤ B) (hB : B ≤ 4000) : ((pV r).length : Int) + sumS (pN r) ≤ B := by
  have h1 := longL_sum (pN r) (pV r).length (by unfold longR at h; omega)
  unfold longR at h
  omega
theorem encs_sum : ∀ l : List ByteArray, (encs l).length ≤ sumS l
  | [] => Nat.le_refl _
  | s :: t => by
    have h1 := encs_sum t
    have h2 : sumS (s :: t) = s.size + 9 + sumS t := rfl
    have h3 : (encs (s :: t)).length = (encS s).length + (encs t).length := by simp [encs]
    have h4 : (encS s).length ≤ 9 + s.size := by
      rw [encS_length]
      have := wid_le s.size
      omega
    omega
theorem len_sum : ∀ l : List ByteArray, l.length * 9 ≤ sumS l
  | [] => Nat.le_refl _
  | s :: t => by
    have h1 := len_sum t
    have h2 : sumS (s :: t) = s.size + 9 + sumS t := rfl
    rw [List.length_cons]
    omega
theorem mem_sum : ∀ (l : List ByteArray) (s : ByteArray), s ∈ l → s.size ≤ sumS l
  | [], _, h => by cases h
  | s :: t, x, h => by
    have h2 : sumS (s :: t) = s.size + 9 + sumS t := rfl
    rcases List.mem_cons.1 h with rfl | h
    · omega
    · have := mem_sum t x h
      omega
theorem long_drop (l : List ByteArray) (i : Nat) (hi : i < l.length) (m : Int) (hm : m ≤ 4000) : longL (l.drop i) m = longL (l.drop (i + 1)) (m + l[i].size + 9) := by
  rw [List.drop_eq_getElem_cons hi, longL, if_pos hm]
theorem long_stop (l : List ByteArray) (m : Int) (hm : ¬ m ≤ 4000) : longL l m = m := by
  cases l with
  | nil => rfl
  | cons s t => rw [longL, if_neg hm]

set_option maxRecDepth 100000 in
set_option maxHeartbeats 4000000 in
theorem oneO_any (x : Or) (w : World) : Calls Try.prog 12 #[.agg (orc x).toArray] w (One (.agg (orc x).toArray) w) := by
  obtain ⟨d30, hu30, hd30⟩ := rowOrR
  have HU := Lib.hid hu30
  have HD := Lib.hid hd30
  clear hu30 hd30
  go_enter Try.func12, Try.ntmps12
  go_wp2_with (refine wpList_box_blk rfl 24 _ rfl (orc x) rfl ?_)
  intro w1 b1 b2 b3
  go_wp2_with (refine wpList_alloc_blk rfl 33 rfl (orc or0) zeroOrR ?_)
  intro w2 a1 a2 a3
  obtain ⟨g0, hg0⟩ : ∃ g, w.heap.size = g := ⟨_, rfl⟩
  obtain ⟨g1, hg1⟩ : ∃ g, w.heap.size + 1 = g := ⟨_, rfl⟩
  have X0 := Lib.hid (b1.below a3 (by omega))
  have X1 := Lib.hid a1
  have HB := Lib.hid (b3.trans (a3.mono (by omega)))
  have hw1 : w.heap.size ≤ g1 := by omega
  rw [hg1] at X1 ⊢
  rw [hg0] at X0 ⊢
  have d0 := X0.out.at_ 0 _ rfl
  have d1 := X0.out.at_ 1 _ rfl
  have d2 := X0.out.at_ 2 _ rfl
  have d3 := X0.out.at_ 3 _ rfl
  have d4 := X0.out.at_ 4 _ rfl
  have d5 := X0.out.at_ 5 _ rfl
  have d6 := X0.out.at_ 6 _ rfl
  have d7 := X0.out.at_ 7 _ rfl
  clear b1 b2 b3 a1 a2 a3
  go_wp2_with (refine wpList_store_to rfl 33 _ _ rfl g1 (orc x) (orc or0) 33 rfl rfl X1.out szOrR rfl (orc_all _) ?_)
  intro w20 e1 e2 e3 e4
  go_wp2
  refine bodyPost_ret (v := .agg (orc x).toArray) ?_ rfl ?_
  · exact ret_blkUL rfl _ _ g1 33 (orc x) rfl e1 d30 HU.out HD.out szOrR
  · exact ⟨rfl, HB.out.trans (e3.mono hw1)⟩

set_option maxRecDepth 100000 in
set_option maxHeartbeats 4000000 in
theorem toldO_any (r : Rp) (A : Option Addr) (n c : Nat) (w : World) : Calls Try.prog 15 #[.agg (rpc r (.slice A n c)).toArray] w (One (.agg (rpc r (.slice A n c)).toArray) w) := by
  obtain ⟨d30, hu30, hd30⟩ := rowRpR
  have HU := Lib.hid hu30
  have HD := Lib.hid hd30
  clear hu30 hd30
  go_enter Try.func15, Try.ntmps15
  go_wp2_with (refine wpList_box_blk rfl 28 _ rfl (rpc r (.slice A n c)) rfl ?_)
  intro w1 b1 b2 b3
  go_wp2_with (refine wpList_alloc_blk rfl 37 rfl (rpc rp0 (.slice none 0 0)) zeroRpR ?_)
  intro w2 a1 a2 a3
  obtain ⟨g0, hg0⟩ : ∃ g, w.heap.size = g := ⟨_, rfl⟩
  obtain ⟨g1, hg1⟩ : ∃ g, w.heap.size + 1 = g := ⟨_, rfl⟩
  have X0 := Lib.hid (b1.below a3 (by omega))
  have X1 := Lib.hid a1
  have HB := Lib.hid (b3.trans (a3.mono (by omega)))
  have hw1 : w.heap.size ≤ g1 := by omega
  rw [hg1] at X1 ⊢
  rw [hg0] at X0 ⊢
  have d0 := X0.out.at_ 0 _ rfl
  have d1 := X0.out.at_ 1 _ rfl
  have d2 := X0.out.at_ 2 _ rfl
  have d3 := X0.out.at_ 3 _ rfl
  have d4 := X0.out.at_ 4 _ rfl
  have d5 := X0.out.at_ 5 _ rfl
  clear b1 b2 b3 a1 a2 a3
  go_wp2_with (refine wpList_store_to rfl 37 _ _ rfl g1 (rpc r (.slice A n c)) (rpc rp0 (.slice none 0 0)) 37 rfl rfl X1.out szRpR rfl (rpc_all _ _ _ _) ?_)
  intro w20 e1 e2 e3 e4
  go_wp2
  refine bodyPost_ret (v := .agg (rpc r (.slice A n c)).toArray) ?_ rfl ?_
  · exact ret_blkUL rfl _ _ g1 37 (rpc r (.slice A n c)) rfl e1 d30 HU.out HD.out szRpR
  · exact ⟨rfl, HB.out.trans (e3.mono hw1)⟩

set_option maxRecDepth 100000 in
set_option maxHeartbeats 4000000 in
theorem longO_any (r : Rp) (nv : Value) (w : World) (hr : RdS w.heap.size w nv (pN r)) (hv : (pV r).length ≤ 140737488355328) (hs : ∀ s ∈ pN r, s.size ≤ 140737488355328) : Calls Try.prog 8 #[.agg (rpc r nv).toArray] w (One (.int .i64 (longR r)) w) := by
  obtain ⟨A, c, rfl, hc, hm⟩ := hr.shape
  obtain ⟨ss, hss⟩ : ∃ ss, pN r = ss := ⟨_, rfl⟩
  obtain ⟨kp, hkp⟩ : ∃ k, (pV r).length = k := ⟨_, rfl⟩
  have hkz : (⟨(pV r).toArray⟩ : ByteArray).size = kp := hkp
  obtain ⟨T, hT⟩ : ∃ T, longL ss kp = T := ⟨_, rfl⟩
  have HF : Hid (longR r = T) := by
    show longR r = T
    unfold longR
    rw [hss, hkp]
    exact hT
  obtain ⟨k, hk⟩ : ∃ n, ss.length = n := ⟨_, rfl⟩
  rw [hss] at hr hs hc ⊢
  rw [hkp] at hv
  rw [hk] at hr hc ⊢
  have HK := Lib.hid hk
  have HR := Lib.hid hr
  have HS := Lib.hid hs
  have HT := Lib.hid hT
  unfold maxLen at hm
  have hk64 : (k : Int) ≤ 9223372036854775807 := by omega
  have HC := Lib.hid hc
  clear hr hs hk hT hkp hss hc
  go_enter Try.func8, Try.ntmps8
  go_wp2_with (refine wpList_box_blk rfl 28 _ rfl (rpc r (.slice A k c)) rfl ?_)
  intro w1 b1 b2 b3
  obtain ⟨g0, hg0⟩ : ∃ g, w.heap.size = g := ⟨_, rfl⟩
  have X0 := Lib.hid b1
  have E1 := Lib.hid b3
  rw [hg0] at X0 ⊢
  have c3 := X0.out.at_ 3 _ rfl
  clear b1 b2 b3 hg0
  go_wp2
  clear c3
  go_loopw [3, 4] (fun y x wr => ∃ (i : Nat) (m : Int), i ≤ k ∧ x = .int .i64 (i : Int) ∧ y = .int .i64 m ∧ Hid (0 ≤ m) ∧ Hid (m ≤ 140737488355328 + 140737488360000 ∧ (i = 0 → m ≤ 140737488355328)) ∧ Hid (longL (ss.drop i) m = T) ∧ Hid (Below w1.heap.size w1 wr)) (fun _ x _ => k - (intOf x).toNat)
  case atStart =>
    exact ⟨0, kp, by omega, rfl, by first | rfl | rw [hkz], Int.natCast_nonneg _, ⟨by omega, fun _ => by omega⟩, HT, Below.refl _ _⟩
  case round =>
    obtain ⟨i, m, hi, rfl, rfl, HM0, HM, HL, EL⟩ := hrel
    have P1 := Lib.hid (E1.out.trans (EL.out.mono E1.out.size))
    have X1 := Lib.hid (X0.out.below EL.out X0.out.lt)
    have c5 := X1.out.at_ 5 _ rfl
    have HR1 := Lib.hid ((HR.out.below P1.out).more P1.out.size)
    by_cases hi2 : i < k
    · have zi : (i : Int) < (k : Int) := by omega
      by_cases hm2 : m ≤ 4000
      · obtain ⟨a, hA, cA⟩ := HR1.out.at_ i (by rw [HK.out]; exact hi2)
        subst hA
        have hlt : i < ss.length := by rw [HK.out]; exact hi2
        obtain ⟨z, hz⟩ : ∃ z, ss[i] = z := ⟨_, rfl⟩
        have hzs : z.size ≤ 140737488355328 := by
          rw [← hz]
          exact HS.out _ (List.getElem_mem hlt)
        have HN : Hid (longL (ss.drop (i + 1)) (m + z.size + 9) = T) := by
          show _ = _
          rw [← hz, ← long_drop ss i hlt m hm2]
          exact HL.out
        rw [hz] at cA
        clear hz HL
        obtain ⟨zk, hzk⟩ : ∃ n, z.size = n := ⟨_, rfl⟩
        rw [hzk] at hzs HN
        have hm0 := HM0.out
        go_wp2
        go_roundw
        case rel => exact ⟨i + 1, m + zk + 9, by omega, by go_num, by first | rfl | go_num | (rw [hzk]; go_num), by show (0 : Int) ≤ _; omega, ⟨by omega, fun h => by omega⟩, HN, EL⟩
        case measure => first | (simp [intOf]; done) | (simp [intOf]; omega)
      · have HE : Hid (m = T) := by
          show _ = _
          rw [← HL.out, long_stop _ _ hm2]
        go_wp2
        go_ret
        exact ⟨by rw [HF.out, HE.out]; rfl, P1.out⟩
    · obtain rfl : i = k := by omega
      have HE : Hid (m = T) := by
        show _ = _
        rw [← HL.out, List.drop_eq_nil_of_le (by rw [HK.out]; exact Nat.le_refl _)]
        rfl
      go_wp2
      go_ret
      exact ⟨by rw [HF.out, HE.out]; rfl, P1.out⟩
end Go.Proofs.Ytmlpiembglmggaa
