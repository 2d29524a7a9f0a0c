/-
  The program's shelves: a new node's place is found. Each theorem states its own conditions.
-/
import Derived.Test.YtlpakfaoaodaiaaDoorGA
import Derived.Test.YtlpakfaoaodaiaaDoorRel4
namespace Go.Proofs.YtlpakfaoaodaiaaDoor
open Go.RowKit

theorem aheadPx (p q : List UInt8) (b : Bool) (h : aheadB p q = b) (w : World) : Calls Tryd.prog 61 #[txt p, txt q] w (One (.bool b) w) := by
  rw [← h]
  exact pxAhead_any p q w

set_option maxRecDepth 100000 in
set_option maxHeartbeats 4000000 in
/-- The function that asks whether a path is ahead of a node. -/
theorem plFn_any (l : List Nd) (p : List UInt8) (v : Value) (i gp gl : Nat) (W : World) (hr : RdNd W.heap.size W v l) (hi : i < l.length) (h1 : gp < W.heap.size) (h2 : gl < W.heap.size)
    (c1 : W.cell? ⟨gp, 0, none⟩ = some (txt p)) (c2 : W.cell? ⟨gl, 0, none⟩ = some v) :
    Calls Tryd.prog 70 #[.int .i64 (i : Int), .pointer (some ⟨gp, 0, none⟩), .pointer (some ⟨gl, 0, none⟩)] W (One (.bool (aheadB p (nP (l.getD i nd0)))) W) := by
  obtain ⟨A, cp, rfl, hc, hm⟩ := hr.shape
  unfold maxLen at hm
  obtain ⟨n, hn⟩ : ∃ n, l.length = n := ⟨_, rfl⟩
  have HN := Lib.hid hn
  have HR := Lib.hid hr
  rw [hn] at hc HR hi c2
  have zi : (i : Int) < (n : Int) := by omega
  obtain ⟨a, hA, -⟩ := hr.at_ i (by omega)
  subst hA
  have C1 := Lib.hid c1
  have C2 := Lib.hid c2
  obtain ⟨y, hx⟩ : ∃ y, nP (l.getD i nd0) = y := ⟨_, rfl⟩
  have HX := Lib.hid hx
  rw [hx]
  clear hr hn c1 c2 hx
  go_enter Tryd.func70, Tryd.ntmps70
  go_wp2
  obtain ⟨B, hB⟩ : ∃ B, aheadB p y = B := ⟨_, rfl⟩
  have HBB := Lib.hid hB
  clear hB
  refine wp_region_rely2 8 0 (fun x => ⟨#[.int IntKind.i64 ↑i, .pointer (some { block := gp, off := 0 }), .pointer (some { block := gl, off := 0 }), undef, x 7, x 0, x 1, x 2, x 3, x 4, x 5, x 6], []⟩) (fun jj => ([eqV (txt p), eqV (.slice (some a) n cp), eqV (.int IntKind.i64 ↑i), eqV (.pointer (some (a.add (i * 4)))), eqV (.pointer (some (a.add (i * 4)))), eqV (txt y), (eqV (.bool B)), eqV (.bool B)] : List (Value → World → Prop)).getD jj (fun _ _ => True)) rfl ⟨fun kk => [_, _, _, _, _, _, _, _].getD kk undef, rfl⟩ (by kernel_rfl) (by kernel_rfl) ?steps ?fin
  case steps =>
    refine StepsAt.val 0 (txt p) rfl (fun _ _ => rfl) rfl rfl (fun x wx hb hd => ?_) ?_
    · have cc := (hb.cell h1).trans C1.out
      first | (go_simp; done) | (go_simp; rfl)
    refine StepsAt.val 1 (.slice (some a) n cp) rfl (fun _ _ => rfl) rfl rfl (fun x wx hb hd => ?_) ?_
    · have cc := (hb.cell h2).trans C2.out
      first | (go_simp; done) | (go_simp; rfl)
    refine StepsAt.val 2 (.int IntKind.i64 ↑i) rfl (fun _ _ => rfl) rfl rfl (fun x wx hb hd => ?_) ?_
    · first | (go_simp; done) | (go_simp; rfl)
    refine StepsAt.val 3 (.pointer (some (a.add (i * 4)))) rfl (fun _ _ => rfl) rfl rfl (fun x wx hb hd => ?_) ?_
    · have h1 : x 1 = .slice (some a) n cp := hd 1 (by kernel_rfl)
      have h2 : x 2 = .int IntKind.i64 ↑i := hd 2 (by kernel_rfl)
      rw [h1, h2]
      first | (go_simp; done) | (go_simp; rfl)
    refine StepsAt.val 4 (.pointer (some (a.add (i * 4)))) rfl (fun _ _ => rfl) rfl rfl (fun x wx hb hd => ?_) ?_
    · have h3 : x 3 = .pointer (some (a.add (i * 4))) := hd 3 (by kernel_rfl)
      rw [h3]
      first | (go_simp; done) | (go_simp; rfl)
    refine StepsAt.val 5 (txt y) rfl (fun _ _ => rfl) rfl rfl (fun x wx hb hd => ?_) ?_
    · have h4 : x 4 = .pointer (some (a.add (i * 4))) := hd 4 (by kernel_rfl)
      obtain ⟨a9, hA9, cc, -⟩ := (HR.out.below hb).at_ i (by rw [HN.out]; exact hi)
      obtain rfl : a = a9 := Option.some.inj hA9
      rw [HX.out] at cc
      rw [h4]
      first | (go_simp; done) | (go_simp; rfl)
    refine StepsAt.cons 6 (fun _ _ _ h hb => h) (fun _ _ => rfl) rfl rfl (fun x wx hb hd K hK => ?_) ?_
    · have h0 : Hid (x 0 = txt p) := hd 0 (by kernel_rfl)
      have h5 : Hid (x 5 = txt y) := hd 5 (by kernel_rfl)
      go_simp
      refine calls_args (args2 := #[txt p, txt y]) (by rw [h0.out, h5.out]) ?_
      refine (aheadPx p y B HBB.out _).mono ?_
      rintro e w99 ⟨rfl, hb99⟩
      exact hK.out _ _ hb99 rfl
    refine StepsAt.val 7 (.bool B) rfl (fun _ _ => rfl) rfl rfl (fun x wx hb hd => ?_) ?_
    · have h6 : x 6 = .bool B := hd 6 (by kernel_rfl)
      rw [h6]
      first | (go_simp; done) | (go_simp; rfl)
    exact StepsAt.done
  case fin =>
    intro x wx hb hd
    have hx0 : x 0 = txt p := hd 0 (by omega)
    have hx1 : x 1 = .slice (some a) n cp := hd 1 (by omega)
    have hx2 : x 2 = .int IntKind.i64 ↑i := hd 2 (by omega)
    have hx3 : x 3 = .pointer (some (a.add (i * 4))) := hd 3 (by omega)
    have hx4 : x 4 = .pointer (some (a.add (i * 4))) := hd 4 (by omega)
    have hx5 : x 5 = txt y := hd 5 (by omega)
    have hx6 : x 6 = .bool B := hd 6 (by omega)
    have hx7 : x 7 = .bool B := hd 7 (by omega)
    refine AnyTill.any (S := fun _ => True) (m := 8) _ _ _ _ ?_
    refine AnyTill.done (by kernel_rfl) ?_
    refine NoPanic.normal ?_
    try dsimp only
    rw [hx0, hx1, hx2, hx3, hx4, hx5, hx6, hx7]
    have HW := Lib.hid hb
    clear hx0 hx1 hx2 hx3 hx4 hx5 hx6 hx7 hd hb
    go_wp2
    go_ret
    exact ⟨by rw [HBB.out]; rfl, HW.out⟩

set_option maxRecDepth 100000 in
set_option maxHeartbeats 4000000 in
theorem shPlace_any (l : List Nd) (p : List UInt8) (v : Value) (w : World) (hr : RdNd w.heap.size w v l) (hl : l.length ≤ 100000) (ho : inOrder l) : Calls Tryd.prog 45 #[v, txt p] w (One (.int .i64 ((posN l p : Nat) : Int)) w) := by
  have hmf : ∀ (fn : Fn) (first cap : Array Value) (w : World), (Instr.makeFunc fn first cap).run Tryd.prog w = .ok (.func fn first cap) w := fun _ _ _ _ => rfl
  obtain ⟨A, cp, rfl, hc, hm⟩ := hr.shape
  unfold maxLen at hm
  have HR := Lib.hid hr
  have HL := Lib.hid hl
  have HO := Lib.hid ho
  obtain ⟨n, hn⟩ : ∃ n, l.length = n := ⟨_, rfl⟩
  have HN := Lib.hid hn
  rw [hn] at HR HL hc ⊢
  clear hr hl ho hn
  go_enter Tryd.func45, Tryd.ntmps45
  go_wp2_with (refine wpList_box_one rfl 22 _ rfl (.slice A n cp) rfl rfl ?_)
  intro w1 b1 b2 b3
  go_wp2_with (refine wpList_box_one rfl 9 _ rfl (txt p) rfl rfl ?_)
  intro w2 a1 a2 a3
  obtain ⟨g0, hg0⟩ : ∃ g, w.heap.size = g := ⟨_, rfl⟩
  obtain ⟨g1, hg1⟩ : ∃ g, w.heap.size + 1 = g := ⟨_, rfl⟩
  have X0 := Lib.hid (b1.below a3 (by omega))
  have X1 := Lib.hid a1
  have HB := Lib.hid (b3.trans (a3.mono (by omega)))
  have h02 : g0 < w2.heap.size := by omega
  have h12 : g1 < w2.heap.size := by omega
  rw [hg1] at X1 ⊢
  rw [hg0] at X0 ⊢
  have ca := X0.out.cell 0
  clear b1 b2 b3 a1 a2 a3 hg0 hg1
  go_wp2_with fail
  refine (search_any n (posN l p) 70 #[.pointer (some ⟨g1, 0, none⟩), .pointer (some ⟨g0, 0, none⟩)] (fun i => aheadB p (nP (l.getD i nd0))) w2 HL.out (by rw [← HN.out]; exact posN_le l p) (fun args w => enters_of Tryd.func70 (by kernel_rfl) rfl args w)
    (fun i hi => posN_at l p HO.out i (by rw [HN.out]; exact hi)) (fun i W hi hW => ?_)).mono ?_
  · refine plFn_any l p _ i g1 g0 W ((HR.out.below (HB.out.trans (hW.mono HB.out.size))).more (HB.out.trans (hW.mono HB.out.size)).size) (by rw [HN.out]; exact hi) (Nat.lt_of_lt_of_le h12 hW.size) (Nat.lt_of_lt_of_le h02 hW.size) ((hW.cell h12).trans (X1.out.cell 0)) ((hW.cell h02).trans (X0.out.cell 0))
  rintro e w3 ⟨rfl, hb⟩
  have HB3 := Lib.hid (HB.out.trans (hb.mono HB.out.size))
  clear hb ca
  go_wp2
  go_ret
  exact ⟨rfl, HB3.out⟩
end Go.Proofs.YtlpakfaoaodaiaaDoor
