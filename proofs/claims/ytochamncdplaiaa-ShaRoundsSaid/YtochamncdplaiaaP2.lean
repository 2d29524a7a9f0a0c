/-
  The document's own product in pieces of 16 bits, of any two short rows.
-/
import Derived.Test.YtochamncdplaiaaP1
namespace Go.Proofs.Ytochamncdplaiaa
open Go.RowKit

/-- Words of 64 bits as cells. -/
def us (l : List Nat) : List Value := l.map fun (n : Nat) => Value.int .u64 (n : Int)
theorem us_length (l : List Nat) : (us l).length = l.length := by simp [us]
theorem us_cell (l : List Nat) (j : Nat) (h : j < l.length) : (us l)[j]? = some (.int .u64 ((l.getD j 0 : Nat) : Int)) := by simp [us, h]
theorem us_set (l : List Nat) (j x : Nat) : (us l).set j (.int .u64 (x : Int)) = us (l.set j x) := by simp [us, List.map_set]
theorem info53 : (Try.prog.info? 53).map (fun i => (i.zero, i.size, i.bytes)) = some (some (.int .u64 0), 1, 8) := by kernel_rfl

theorem own_blk {w : World} {base g n : Nat} {e : TypeId} {xs : List Value} (h : w.ownsRow base e 1 (.slice (some ⟨g, 0, none⟩) n n) n xs) : Blk w g xs e := by
  rcases h.2 with ⟨h', _⟩ | ⟨g', cap, cur, h', hb, hg, hnc, hm, hcs, ht⟩
  · cases h'
  · simp only [Value.slice.injEq, Option.some.injEq, Addr.mk.injEq, and_true, true_and] at h'
    obtain ⟨rfl, rfl⟩ := h'
    unfold Blk
    rw [hg]
    have : cur.toList = xs := by
      rw [← ht, List.take_of_length_le (by simp; omega)]
    rw [← this]

theorem inn_length (o b : List Nat) (x i k : Nat) : (inn o b x i k).1.length = o.length := by
  induction k with
  | zero => rfl
  | succ k ih => simp only [inn]; rw [List.length_set, ih]
theorem tm_length (a b : List Nat) (i : Nat) : (tm a b i).length = a.length + b.length := by
  induction i with
  | zero => simp [tm]
  | succ i ih => simp only [tm]; rw [List.length_set, inn_length, ih]
theorem w64_int (c o x y : Nat) : IntKind.u64.wrap (IntKind.u64.wrap ((c : Int) + (o : Int)) + IntKind.u64.wrap ((x : Int) * (y : Int))) = ((w64 (c + o + x * y) : Nat) : Int) := by
  rw [IntKind.wrap_u64, IntKind.wrap_u64, IntKind.wrap_u64]
  unfold w64
  have e : (x : Int) * (y : Int) = ((x * y : Nat) : Int) := by simp
  rw [e]
  omega

/-- The call answers a row of its own with these pieces. -/
def Pieces (l : List Nat) (w : World) (e : Ending) (w' : World) : Prop := ∃ g, e = .returned (.slice (some ⟨g, 0, none⟩) l.length l.length) ∧ w.heap.size ≤ g ∧ Blk w' g (us l) 53 ∧ Below w.heap.size w w'

set_option maxHeartbeats 1000000 in
theorem times_any (la lb : List Nat) (ga gb : Nat) (w : World) (ha : Blk w ga (us la) 53) (hb : Blk w gb (us lb) 53) (h1 : la.length ≤ 20) (h2 : lb.length ≤ 20) :
    Calls Try.prog 35 #[.slice (some ⟨ga, 0, none⟩) la.length la.length, .slice (some ⟨gb, 0, none⟩) lb.length lb.length] w (Pieces (tms la lb) w) := by
  obtain ⟨i0, hi, hz0, hz1, hz2⟩ := info_parts info53
  have HI := Lib.hid hi
  have H0 := Lib.hid hz0
  have H1 := Lib.hid hz1
  have H2 := Lib.hid hz2
  have HA := Lib.hid ha
  have HB := Lib.hid hb
  obtain ⟨n, hn⟩ : ∃ n : Nat, la.length + lb.length = n := ⟨_, rfl⟩
  have hn' : (la.length : Int) + (lb.length : Int) = (n : Int) := by omega
  clear hi hz0 hz1 hz2 ha hb
  have HN := Lib.hid hn
  obtain ⟨na, hna⟩ : ∃ n : Nat, la.length = n := ⟨_, rfl⟩
  obtain ⟨nb, hnb⟩ : ∃ n : Nat, lb.length = n := ⟨_, rfl⟩
  have HNA := Lib.hid hna
  have HNB := Lib.hid hnb
  rw [hna, hnb] at hn hn'
  rw [hna] at h1 ⊢
  rw [hnb] at h2 ⊢
  have hal := HA.out.lt
  have hbl := HB.out.lt
  clear hna hnb
  go_enter Try.func35, Try.ntmps35
  go_wp2_with (at_make; refine wpList_make_full _ rfl _ _ 63 rfl w.heap.size 53 i0 (.int .u64 0) 1 Try.underlying63 HI.out H0.out H1.out _ _ _ _ n rfl rfl rfl rfl (by rw [H2.out]; omega) (by unfold maxLen; omega) (Nat.le_refl _) ?_)
  intro w1 hown hgrow
  have hb1 : Below w.heap.size w w1 := (Below.refl _ _).grown hgrow (Nat.le_refl _) (fun k hk => by cases hk)
  have HO : Hid (Blk w1 w.heap.size (us (tm la lb 0)) 53) := by
    have h := own_blk hown
    show Blk w1 w.heap.size (us (tm la lb 0)) 53
    have e : us (tm la lb 0) = List.replicate n (.int .u64 0) := by simp [tm, us, HN.out]
    rw [e, ← toList_madeCells_one]
    simpa using h
  have GB := Lib.hid hb1
  have HSUM := Lib.hid hn
  clear hown hgrow hb1 hn' hn
  go_wp2
  go_loopw [6] (fun x wr => ∃ i : Nat, i ≤ na ∧ x = .int .i64 i ∧ Hid (Blk wr w.heap.size (us (tm la lb i)) 53) ∧ Hid (Below w.heap.size w wr)) (fun x _ => na - (intOf x).toNat)
  case atStart => exact ⟨0, by omega, rfl, HO, GB⟩
  case round =>
    clear HO GB
    obtain ⟨i, hi, rfl, G0, GB⟩ := hrel
    by_cases hi2 : i < na
    · have zi : (i : Int) < (na : Int) := by omega
      go_wp2
      go_loopw [7, 8] (fun x y wr => ∃ k c : Nat, ∃ q : List Nat, k ≤ nb ∧ y = .int .i64 k ∧ x = .int .u64 c ∧ Hid (inn (tm la lb i) lb (la.getD i 0) i k = (q, c)) ∧ Hid (Blk wr w.heap.size (us q) 53) ∧ Hid (Below w.heap.size w wr)) (fun _ y _ => nb - (intOf y).toNat)
      case atStart => exact ⟨0, 0, tm la lb i, by omega, rfl, rfl, rfl, G0, GB⟩
      case round =>
        clear G0 GB
        obtain ⟨k, c, q, hk, rfl, rfl, HQ, G0, GB⟩ := hrel
        have hsum := HSUM.out
        have hq : q.length = n := by
          have h := inn_length (tm la lb i) lb (la.getD i 0) i k
          rw [HQ.out, tm_length, HN.out] at h
          exact h
        by_cases hk2 : k < nb
        · have zk : (k : Int) < (nb : Int) := by omega
          obtain ⟨j, hj⟩ : ∃ j : Nat, i + k = j := ⟨_, rfl⟩
          have ej : IntKind.i64.wrap ((i : Int) + (k : Int)) = (j : Int) := by rw [IntWalk.i64_in _ (by omega)]; omega
          have zj : (j : Int) < (n : Int) := by omega
          have c1 := (G0.out.cell j).trans (us_cell q j (by omega))
          have c2 := ((HA.out.below GB.out hal).cell i).trans (us_cell la i (by rw [HNA.out]; exact hi2))
          have c3 := ((HB.out.below GB.out hbl).cell k).trans (us_cell lb k (by rw [HNB.out]; exact hk2))
          have HN1 : Hid (inn (tm la lb i) lb (la.getD i 0) i (k + 1) = (q.set j (w64 (c + q.getD j 0 + la.getD i 0 * lb.getD k 0) % 65536), w64 (c + q.getD j 0 + la.getD i 0 * lb.getD k 0) / 65536)) := by
            show inn (tm la lb i) lb (la.getD i 0) i (k + 1) = _
            rw [inn, HQ.out, hj]
          have eS := w64_int c (q.getD j 0) (la.getD i 0) (lb.getD k 0)
          have hSb : ((w64 (c + q.getD j 0 + la.getD i 0 * lb.getD k 0) : Nat) : Int) ≤ 18446744073709551615 := by unfold w64; omega
          generalize w64 (c + q.getD j 0 + la.getD i 0 * lb.getD k 0) = S at HN1 eS hSb
          generalize q.getD j 0 = oj at c1 eS
          generalize lb.getD k 0 = y at c3 eS
          generalize hx : la.getD i 0 = x at c2 eS
          have HX := Lib.hid hx
          have HJ := Lib.hid hj
          have hin : i + k < n := by omega
          clear hx HQ hj hsum hq
          go_wp2
          go_still (by kernel_rfl)
          generalize hw5 : ({ heap := wr.heap, tape := wr.tape, drawn := wr.drawn + 1, os := wr.os, output := wr.output } : World) = w5
          have K0 : Hid (Blk w5 w.heap.size (us q) 53) := by rw [← hw5]; exact G0
          have KB : Hid (Below w.heap.size w w5) := by rw [← hw5]; exact GB.out.drew
          have d1 : w5.cell? ⟨w.heap.size, i + k, none⟩ = some (.int .u64 (oj : Int)) := by rw [← hw5, HJ.out]; exact c1
          have f1 := K0.out.frozen (i + k)
          have hin' : (i : Int) + (k : Int) < (n : Int) := by omega
          clear c1 c2 c3 G0 GB hw5 ej zj eS
          go_wp2
          go_roundw
          case rel =>
            refine ⟨k + 1, S / 65536, q.set j (S % 65536), by omega, by go_num, by go_num, by have h := HN1.out; rw [HX.out] at h; exact h, ?_, KB.out.setCell (by simp) _⟩
            have h := K0.out.set (i + k) (.int .u64 ((S % 65536 : Nat) : Int))
            rw [us_set, HJ.out] at h
            have e : ((S % 65536 : Nat) : Int) = (S : Int) % 65536 := by simp
            rw [e, ← HJ.out] at h
            rw [← HJ.out]
            exact h
          case measure => simp [intOf]; omega
        · obtain rfl : k = nb := by omega
          have hin : i + k < n := by omega
          have d1 := (G0.out.cell (i + k)).trans (us_cell q (i + k) (by omega))
          have f1 := G0.out.frozen (i + k)
          have hin' : (i : Int) + (k : Int) < (n : Int) := by omega
          have HT : Hid (tm la lb (i + 1) = q.set (i + k) c) := by
            show tm la lb (i + 1) = _
            rw [tm, HNB.out, HQ.out]
          clear hsum hq HQ
          go_wp2
          go_roundw
          case rel =>
            refine ⟨i + 1, by omega, by go_num, ?_, GB.out.setCell (by simp) _⟩
            have h := G0.out.set (i + k) (.int .u64 (c : Int))
            rw [us_set, ← HT.out] at h
            exact h
          case measure => simp [intOf]; omega
    · obtain rfl : i = na := by omega
      go_wp2
      go_ret
      have hl : (tms la lb).length = n := by unfold tms; rw [tm_length, HN.out]
      refine ⟨w.heap.size, by rw [hl]; rfl, Nat.le_refl _, ?_, GB.out⟩
      have h := G0.out
      rw [← HNA.out] at h
      exact h
end Go.Proofs.Ytochamncdplaiaa
