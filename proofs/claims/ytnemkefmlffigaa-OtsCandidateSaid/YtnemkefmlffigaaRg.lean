/-
  The document's own layer 4: the width that the first four bytes of a signature tell.
-/
import Derived.Test.YtnemkefmlffigaaRp
namespace Go.Proofs.Ytnemkefmlffigaa
open Go.RowKit

/-- The width from k on that four bytes tell; 0: none. -/
def wFrom (b : List UInt8) (k : Nat) : Nat :=
  if k = 1 then (if be 4 1 = b then 1 else if be 4 2 = b then 2 else if be 4 3 = b then 4 else if be 4 4 = b then 8 else 0)
  else if k = 2 then (if be 4 2 = b then 2 else if be 4 3 = b then 4 else if be 4 4 = b then 8 else 0)
  else if k = 4 then (if be 4 3 = b then 4 else if be 4 4 = b then 8 else 0)
  else if k = 8 then (if be 4 4 = b then 8 else 0) else 0
theorem wFrom_hit (b : List UInt8) (k : Nat) (hk : Wd k) (h : be 4 (typ k) = b) : wFrom b k = k := by
  subst h
  rcases hk with rfl | rfl | rfl | rfl <;> decide
theorem wFrom_miss (b : List UInt8) (k : Nat) (hk : Wd k) (h : be 4 (typ k) ≠ b) : wFrom b k = wFrom b (2 * k) := by
  rcases hk with rfl | rfl | rfl | rfl
  · have h' : be 4 1 ≠ b := h
    simp [wFrom, h']
  · have h' : be 4 2 ≠ b := h
    simp [wFrom, h']
  · have h' : be 4 3 ≠ b := h
    simp [wFrom, h']
  · have h' : be 4 4 ≠ b := h
    simp [wFrom, h']

set_option maxRecDepth 100000 in
set_option maxHeartbeats 2000000 in
theorem width_any (b : List UInt8) (v : Value) (w : World) (hr : Rd w.heap.size w v b) (hb4 : b.length = 4) : Calls Try.prog 28 #[v] w (One (.int .i64 (wFrom b 1 : Nat)) w) := by
  obtain ⟨A, c, rfl, hc, hm⟩ := hr.shape
  unfold maxLen at hm
  have HR := Lib.hid hr
  have HB4 := Lib.hid hb4
  clear hr
  rw [hb4] at hc HR ⊢
  clear hb4
  go_enter Try.func28, Try.ntmps28
  go_wp2
  have K0 : Hid (Below w.heap.size w w) := Below.refl _ _
  go_loopw [2, 3] (fun x2 x wr => ∃ k : Nat, (Wd k ∨ k = 16) ∧ x = .int .i64 (k : Int) ∧ x2 = .int .i64 0 ∧ Hid (wFrom b 1 = wFrom b k) ∧ Hid (Below w.heap.size w wr)) (fun _ x _ => 16 - (intOf x).toNat)
  case atStart => exact ⟨1, .inl (.inl rfl), rfl, rfl, rfl, K0⟩
  case round =>
    clear K0
    obtain ⟨k, hk, rfl, rfl, HW, KB⟩ := hrel
    rcases hk with hk | rfl
    · obtain ⟨k1, k8, _, _⟩ := hk.le
      have zk : (k : Int) ≤ 8 := by omega
      have HK := Lib.hid hk
      obtain ⟨Y, hY⟩ : ∃ Y, typ k = Y := ⟨_, rfl⟩
      have hY4 : Y < 4294967296 := by rw [← hY]; rcases hk with rfl | rfl | rfl | rfl <;> decide
      have HYE := Lib.hid hY
      clear hk hY
      go_wp2_with fail
      refine (refType_yes k _ HK.out).mono ?_
      rintro e w1 ⟨rfl, rfl⟩
      rw [HYE.out]
      go_wp2
      by_cases hby0 : be 4 Y = b
      · have HBY := Lib.hid hby0
        clear hby0
        refine wp_region_rely2 6 0 (fun x => ⟨#[Value.slice A 4 c, undef, Value.int IntKind.i64 0, Value.int IntKind.i64 ↑k, Value.int IntKind.u32 ↑Y, Value.int IntKind.i64 0, Value.int IntKind.i64 ↑k, Value.bool true, u8, u9, Value.tuple #[Value.int IntKind.u32 ↑Y, Value.int IntKind.i64 0], Value.int IntKind.i64 ↑k, Value.tuple #[Value.int IntKind.u32 ↑Y, Value.int IntKind.i64 0], Value.int IntKind.u32 ↑Y, Value.int IntKind.i64 0, x 0, x 1, x 2, x 3, x 4, x 5, u21], []⟩) (fun jj => ([eqV (.int .u32 (Y : Int)), (OwnN 0 (be 4 Y)), eqV (.string ⟨(be 4 Y).toArray⟩), eqV (.slice A 4 c), eqV (.string ⟨b.toArray⟩), eqV (.bool true)] : List (Value → World → Prop)).getD jj (fun _ _ => True)) rfl ⟨fun kk => [_, _, _, _, _, _].getD kk undef, rfl⟩ (by kernel_rfl) (by kernel_rfl) ?steps ?fin
        case steps =>
          refine StepsAt.val 0 (.int .u32 (Y : Int)) rfl (fun _ _ => rfl) rfl rfl (fun x w9 hb hd => ?_) ?_
          · first | (go_simp; done) | (go_simp; rfl)
          refine StepsAt.cons 1 (fun _ _ _ h hb => OwnN.keep h hb) (fun _ _ => rfl) rfl rfl (fun x w9 hb hd K hK => ?_) ?_
          · have h0 : Hid (x 0 = .int .u32 (Y : Int)) := hd 0 (by kernel_rfl)
            go_simp
            refine calls_args (args2 := #[.int .u32 (Y : Int)]) (by rw [h0.out]) ?_
            refine (four_any Y _ hY4).mono ?_
            rintro e w2 ⟨v2, rfl, hown, hb2⟩
            exact hK.out _ _ hb2 (hown.base (Nat.zero_le _))
          refine StepsAt.val 2 (.string ⟨(be 4 Y).toArray⟩) rfl (fun _ _ => rfl) rfl rfl (fun x w9 hb hd => ?_) ?_
          · have h1 : OwnN 0 (be 4 Y) (x 1) w9 := hd 1 (by kernel_rfl)
            have r1 : Rd w9.heap.size w9 (x 1) (be 4 Y) := Own.rd h1
            obtain ⟨A1, c1, e1, _, _⟩ := r1.shape
            rw [e1] at r1
            have t1 := run_string_rd 24 9 5 Try.underlying24 Try.underlying5 Try.underlying9 r1
            rw [e1]
            clear e1 h1 r1
            first | (go_simp; done) | (go_simp; rfl)
          refine StepsAt.val 3 (.slice A 4 c) rfl (fun _ _ => rfl) rfl rfl (fun x w9 hb hd => ?_) ?_
          · first | (go_simp; done) | (go_simp; rfl)
          refine StepsAt.val 4 (.string ⟨b.toArray⟩) rfl (fun _ _ => rfl) rfl rfl (fun x w9 hb hd => ?_) ?_
          · have h3 : x 3 = .slice A 4 c := hd 3 (by kernel_rfl)
            have r1 := (HR.out.below KB.out).below (hb.mono KB.out.size)
            have t1 := run_string_rd 24 9 5 Try.underlying24 Try.underlying5 Try.underlying9 r1
            rw [h3]
            clear r1
            first | (go_simp; done) | (go_simp; rfl)
          refine StepsAt.val 5 (.bool true) rfl (fun _ _ => rfl) rfl rfl (fun x w9 hb hd => ?_) ?_
          · have h2 : x 2 = .string ⟨(be 4 Y).toArray⟩ := hd 2 (by kernel_rfl)
            have h4 : x 4 = .string ⟨b.toArray⟩ := hd 4 (by kernel_rfl)
            rw [h2, h4]
            rw [HBY.out]
            first | (go_simp; done) | (go_simp; rfl)
          exact StepsAt.done
        case fin =>
          intro x w9 hb hd
          have f5 : x 5 = .bool true := hd 5 (by omega)
          refine AnyTill.any (S := fun _ => True) (m := 6) _ _ _ _ ?_
          refine AnyTill.done (by kernel_rfl) ?_
          refine NoPanic.normal ?_
          rw [f5]
          generalize x 0 = p0
          generalize x 1 = p1
          generalize x 2 = p2
          generalize x 3 = p3
          generalize x 4 = p4
          have KC : Hid (Below w.heap.size w w9) := KB.out.trans (hb.mono KB.out.size)
          clear hd f5 hb x
          have h0 : wFrom b 1 = k := HW.out.trans (wFrom_hit b k HK.out (by rw [HYE.out]; exact HBY.out))
          go_wp2
          go_ret
          exact ⟨by rw [h0]; rfl, KC.out⟩
      · have HBY := Lib.hid hby0
        clear hby0
        refine wp_region_rely2 6 0 (fun x => ⟨#[Value.slice A 4 c, undef, Value.int IntKind.i64 0, Value.int IntKind.i64 ↑k, Value.int IntKind.u32 ↑Y, Value.int IntKind.i64 0, Value.int IntKind.i64 ↑k, Value.bool true, u8, u9, Value.tuple #[Value.int IntKind.u32 ↑Y, Value.int IntKind.i64 0], Value.int IntKind.i64 ↑k, Value.tuple #[Value.int IntKind.u32 ↑Y, Value.int IntKind.i64 0], Value.int IntKind.u32 ↑Y, Value.int IntKind.i64 0, x 0, x 1, x 2, x 3, x 4, x 5, u21], []⟩) (fun jj => ([eqV (.int .u32 (Y : Int)), (OwnN 0 (be 4 Y)), eqV (.string ⟨(be 4 Y).toArray⟩), eqV (.slice A 4 c), eqV (.string ⟨b.toArray⟩), eqV (.bool false)] : List (Value → World → Prop)).getD jj (fun _ _ => True)) rfl ⟨fun kk => [_, _, _, _, _, _].getD kk undef, rfl⟩ (by kernel_rfl) (by kernel_rfl) ?steps ?fin
        case steps =>
          refine StepsAt.val 0 (.int .u32 (Y : Int)) rfl (fun _ _ => rfl) rfl rfl (fun x w9 hb hd => ?_) ?_
          · first | (go_simp; done) | (go_simp; rfl)
          refine StepsAt.cons 1 (fun _ _ _ h hb => OwnN.keep h hb) (fun _ _ => rfl) rfl rfl (fun x w9 hb hd K hK => ?_) ?_
          · have h0 : Hid (x 0 = .int .u32 (Y : Int)) := hd 0 (by kernel_rfl)
            go_simp
            refine calls_args (args2 := #[.int .u32 (Y : Int)]) (by rw [h0.out]) ?_
            refine (four_any Y _ hY4).mono ?_
            rintro e w2 ⟨v2, rfl, hown, hb2⟩
            exact hK.out _ _ hb2 (hown.base (Nat.zero_le _))
          refine StepsAt.val 2 (.string ⟨(be 4 Y).toArray⟩) rfl (fun _ _ => rfl) rfl rfl (fun x w9 hb hd => ?_) ?_
          · have h1 : OwnN 0 (be 4 Y) (x 1) w9 := hd 1 (by kernel_rfl)
            have r1 : Rd w9.heap.size w9 (x 1) (be 4 Y) := Own.rd h1
            obtain ⟨A1, c1, e1, _, _⟩ := r1.shape
            rw [e1] at r1
            have t1 := run_string_rd 24 9 5 Try.underlying24 Try.underlying5 Try.underlying9 r1
            rw [e1]
            clear e1 h1 r1
            first | (go_simp; done) | (go_simp; rfl)
          refine StepsAt.val 3 (.slice A 4 c) rfl (fun _ _ => rfl) rfl rfl (fun x w9 hb hd => ?_) ?_
          · first | (go_simp; done) | (go_simp; rfl)
          refine StepsAt.val 4 (.string ⟨b.toArray⟩) rfl (fun _ _ => rfl) rfl rfl (fun x w9 hb hd => ?_) ?_
          · have h3 : x 3 = .slice A 4 c := hd 3 (by kernel_rfl)
            have r1 := (HR.out.below KB.out).below (hb.mono KB.out.size)
            have t1 := run_string_rd 24 9 5 Try.underlying24 Try.underlying5 Try.underlying9 r1
            rw [h3]
            clear r1
            first | (go_simp; done) | (go_simp; rfl)
          refine StepsAt.val 5 (.bool false) rfl (fun _ _ => rfl) rfl rfl (fun x w9 hb hd => ?_) ?_
          · have h2 : x 2 = .string ⟨(be 4 Y).toArray⟩ := hd 2 (by kernel_rfl)
            have h4 : x 4 = .string ⟨b.toArray⟩ := hd 4 (by kernel_rfl)
            rw [h2, h4]
            go_simp
            exact HBY.out
          exact StepsAt.done
        case fin =>
          intro x w9 hb hd
          have f5 : x 5 = .bool false := hd 5 (by omega)
          refine AnyTill.any (S := fun _ => True) (m := 6) _ _ _ _ ?_
          refine AnyTill.done (by kernel_rfl) ?_
          refine NoPanic.normal ?_
          rw [f5]
          generalize x 0 = p0
          generalize x 1 = p1
          generalize x 2 = p2
          generalize x 3 = p3
          generalize x 4 = p4
          have KC : Hid (Below w.heap.size w w9) := KB.out.trans (hb.mono KB.out.size)
          clear hd f5 hb x
          have h0 : Hid (wFrom b 1 = wFrom b (2 * k)) := HW.out.trans (wFrom_miss b k HK.out (by rw [HYE.out]; exact HBY.out))
          have hk2 : Wd (2 * k) ∨ 2 * k = 16 := by rcases HK.out with rfl | rfl | rfl | rfl <;> simp [Wd]
          go_wp2
          go_roundw
          case rel => exact ⟨2 * k, hk2, by go_num, rfl, h0, KC⟩
          case measure => simp [intOf]; omega
    · have h0 : wFrom b 1 = 0 := HW.out.trans rfl
      go_wp2
      go_ret
      exact ⟨by rw [h0]; rfl, KB.out⟩
end Go.Proofs.Ytnemkefmlffigaa
