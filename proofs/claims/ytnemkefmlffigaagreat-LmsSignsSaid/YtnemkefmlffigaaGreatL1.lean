/-
  Package lms: fourBytes, number, sibling, kindOf, the leaves and the length of a shape, the key of a leaf, for every input that they are called with.
-/
import Derived.Test.YtnemkefmlffigaaGreatCc
import Derived.Test.YtnemkefmlffigaaGreatLp
namespace Go.Proofs.YtnemkefmlffigaaGreat
open Go.RowKit

set_option maxHeartbeats 400000 in
theorem fourL_any (q : Nat) (w : World) (hq : q < 4294967296) : Calls Tryz.prog 27 #[.int .u32 (q : Int)] w (Gives w.heap.size (be 4 q) w) := by
  have zq : (q : Int) < 4294967296 := by omega
  go_enter Tryz.func27, Tryz.ntmps27
  go_wp2
  go_ret
  refine ⟨_, rfl, Own.lit 5 w _ 4 (be 4 q) (be_length _ _) (by omega) ?_, (Below.refl _ _).alloc (Nat.le_refl _) _⟩
  simp [be, bys]
  omega

set_option maxHeartbeats 1000000 in
theorem numberL_any (B : Nat) (v : Value) (l : List UInt8) (w : World) (hr : Rd B w v l) (hl : 4 ≤ l.length) : Calls Tryz.prog 38 #[v] w (Drew (.int .u32 (wd l 0 : Nat)) w) := by
  obtain ⟨a, c, hv, hc, hm⟩ := hr.some_ (by omega)
  subst hv
  obtain ⟨A, c', hv, _, _, _, hcell⟩ := hr
  injection hv with e1 e2 e3
  subst e1 e3
  have h0 := (hcell a rfl).2 0 (by omega)
  have h1 := (hcell a rfl).2 1 (by omega)
  have h2 := (hcell a rfl).2 2 (by omega)
  have h3 := (hcell a rfl).2 3 (by omega)
  have hw : wd l 0 = (l[0].toNat * 16777216 ||| l[1].toNat * 65536 ||| l[2].toNat * 256 ||| l[3].toNat) := by
    unfold wd
    simp [show 0 < l.length by omega, show 1 < l.length by omega, show 2 < l.length by omega, show 3 < l.length by omega]
  rw [hw]
  have y0 : l[0].toNat < 256 := l[0].toNat_lt
  have y1 : l[1].toNat < 256 := l[1].toNat_lt
  have y2 : l[2].toNat < 256 := l[2].toNat_lt
  have y3 : l[3].toNat < 256 := l[3].toNat_lt
  generalize l[0].toNat = B0 at h0 y0 hw ⊢
  generalize l[1].toNat = B1 at h1 y1 hw ⊢
  generalize l[2].toNat = B2 at h2 y2 hw ⊢
  generalize l[3].toNat = B3 at h3 y3 hw ⊢
  have HW := Lib.hid (wd_int2 B0 B1 B2 B3 y0 y1 y2 y3)
  unfold maxLen at hm
  clear hcell hw
  obtain ⟨n, hn⟩ : ∃ n, l.length = n := ⟨_, rfl⟩
  rw [hn] at hl hc ⊢
  clear hn
  have zl : (4 : Int) ≤ (n : Int) := by omega
  rw [show a.add 0 = a by simp [Addr.add]] at h0
  simp only [Addr.add] at h1 h2 h3
  rw [if_neg (by omega)] at h1 h2 h3
  go_enter Tryz.func38, Tryz.ntmps38
  go_wp2
  refine wp_region_quiet_lit (by kernel_rfl) (by kernel_rfl) ?_
  repeat (first | go_big_quiet_step (fail) | quiet_step (fail))
  refine wpQuiet_nil ?_
  intro _ hw'
  obtain ⟨nq, hw''⟩ := hw'
  subst hw''
  go_wp2
  go_ret
  exact ⟨ret_intD HW.out, nq, rfl⟩

set_option maxHeartbeats 400000 in
theorem siblingL_any (r : Nat) (w : World) (h1 : 1 ≤ r) (h2 : r < 1000) : Calls Tryz.prog 65 #[.int .i64 (r : Int)] w (One (.int .i64 (sbr r : Nat)) w) := by
  by_cases h : r % 2 = 0
  · have hz : (r : Int) % 2 = 0 := by omega
    have z1 : (r : Int) < 1000 := by omega
    have e : ((sbr r : Nat) : Int) = (r : Int) + 1 := by unfold sbr; rw [if_pos h]; omega
    rw [e]
    have ht : Int.tmod (r : Int) 2 = 0 := by rw [Int.tmod_eq_emod_of_nonneg (by omega)]; exact hz
    go_enter Tryz.func65, Tryz.ntmps65
    go_wp2
    go_ret
    exact ⟨rfl, Below.refl _ _⟩
  · have hz : (r : Int) % 2 = 1 := by omega
    have z1 : (r : Int) < 1000 := by omega
    have z0 : (1 : Int) ≤ (r : Int) := by omega
    have e : ((sbr r : Nat) : Int) = (r : Int) - 1 := by unfold sbr; rw [if_neg h]; omega
    rw [e]
    have ht : Int.tmod (r : Int) 2 = 1 := by rw [Int.tmod_eq_emod_of_nonneg (by omega)]; exact hz
    go_enter Tryz.func65, Tryz.ntmps65
    go_wp2
    go_ret
    exact ⟨rfl, Below.refl _ _⟩

/-- A height. -/
def Ht (h : Nat) : Prop := h = 1 ∨ h = 2 ∨ h = 3 ∨ h = 4 ∨ h = 5
theorem Ht.le {h : Nat} (H : Ht h) : 1 ≤ h ∧ h ≤ 5 := by rcases H with rfl | rfl | rfl | rfl | rfl <;> decide
theorem Ht.of {h : Nat} (h1 : 1 ≤ h) (h5 : h ≤ 5) : Ht h := by unfold Ht; omega

set_option maxHeartbeats 400000 in
theorem kindL_any (h : Nat) (w : World) (H : Ht h) : Calls Tryz.prog 49 #[.int .i64 (h : Int)] w (One (.int .u32 (knd h : Nat)) w) := by
  rcases H with rfl | rfl | rfl | rfl | rfl
  all_goals
    go_enter Tryz.func49, Tryz.ntmps49
    go_wp2
    go_ret
    exact ⟨rfl, Below.refl _ _⟩

/-- The cells of a shape. -/
def shl (k h : Nat) : List Value := [.int .u32 (knd h : Nat), .int .u32 (typ k : Nat), .int .i64 (lng k : Nat), .int .i64 (h : Nat)]
def shl0 : List Value := [.int .u32 0, .int .u32 0, .int .i64 0, .int .i64 0]
theorem zi74 : (Tryz.prog.info? 50).map (·.zero) = some (some (.agg shl0.toArray)) := by kernel_rfl
theorem s74 : (Tryz.prog.info? 50).map (·.size) = some 4 := by kernel_rfl
theorem row74 : ∃ d, Tryz.prog.underlying 50 = some d ∧ d.isRow = true := row_of (by kernel_rfl)
theorem shl0_one : shl0.toArray.all (·.oneCell') = true := by simp [shl0, Value.oneCell']
theorem shl_one (k h : Nat) : (shl k h).toArray.all (·.oneCell') = true := by simp [shl, Value.oneCell']

theorem Blk.at_ {w : World} {g : Nat} {cs : List Value} {t : TypeId} (h : Blk w g cs t) (j : Nat) (v : Value) (hj : cs[j]? = some v) : w.cell? ⟨g, j, none⟩ = some v := (h.cell j).trans hj

set_option maxRecDepth 100000 in
set_option maxHeartbeats 400000 in
theorem leavesL_any (k h : Nat) (w : World) (H : Ht h) : Calls Tryz.prog 22 #[.agg (shl k h).toArray] w (One (.int .i64 (2 ^ h : Nat)) w) := by
  have hk : Hid (((shl k h)[3]? : Option Value) = some (.int .i64 (h : Nat))) := rfl
  go_enter Tryz.func22, Tryz.ntmps22
  go_wp2_with (refine wpList_box_blk rfl 50 _ rfl (shl k h) rfl ?_)
  intro w1 a1 a2 a3
  have c3 := a1.at_ 3 _ hk.out
  have A3 := Lib.hid a3
  clear a1 a2 a3 hk
  rcases H with rfl | rfl | rfl | rfl | rfl
  all_goals
    go_wp2
    go_ret
    exact ⟨rfl, A3.out⟩

set_option maxRecDepth 100000 in
set_option maxHeartbeats 400000 in
theorem longL_any (k h : Nat) (w : World) (hk : Wd k) (H : Ht h) : Calls Tryz.prog 31 #[.agg (shl k h).toArray] w (One (.int .i64 (llng k h : Nat)) w) := by
  have h3 : Hid (((shl k h)[3]? : Option Value) = some (.int .i64 (h : Nat))) := rfl
  have h2 : Hid (((shl k h)[2]? : Option Value) = some (.int .i64 (lng k : Nat))) := rfl
  have hL9 : lng k ≤ 10000 := by have := mny_le k hk; unfold lng; omega
  have e : llng k h = 4 + lng k + 4 + h * 32 := rfl
  rw [e]
  obtain ⟨hh1, hh5⟩ := H.le
  generalize lng k = L at h2 hL9 ⊢
  have z1 : (L : Int) ≤ 10000 := by omega
  have z2 : (h : Int) ≤ 5 := by omega
  go_enter Tryz.func31, Tryz.ntmps31
  go_wp2_with (refine wpList_box_blk rfl 50 _ rfl (shl k h) rfl ?_)
  intro w1 a1 a2 a3
  have c3 := a1.at_ 3 _ h3.out
  have c2 := a1.at_ 2 _ h2.out
  have A3 := Lib.hid a3
  clear a1 a2 a3 h2 h3
  go_wp2
  go_ret
  exact ⟨ret_intD (by omega), A3.out⟩
end Go.Proofs.YtnemkefmlffigaaGreat
