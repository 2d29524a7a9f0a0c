/-
  The program's closures: what tests a watch. Each theorem states its own conditions.
-/
import Derived.Test.YtmiomfonglmfjaaUH

namespace Go.Proofs.Ytmiomfonglmfjaa
open Go.RowKit

/-- A function value that tests watches; it looks at the blocks from a to b alone. -/
def Tests (q : Wa → Bool) (fv : Value) (a b : Nat) (w : World) : Prop :=
  ∃ (f : Nat) (lb : Array Value), fv = .func (.func f) #[] lb ∧ (∀ args W, (callFunc f args).run Try.prog W = .ok (.enter f args) W) ∧
    ∀ W, (∀ k, a ≤ k → k < b → W.heap[k]? = w.heap[k]?) → ∀ x : Wa, Calls Try.prog f (#[.agg #[txt (wP x), .int .i64 (wC x), .bool (wK x)]] ++ lb) W (One (.bool (q x)) W)
theorem Tests.keep {q : Wa → Bool} {fv : Value} {a b : Nat} {w W : World} (h : Tests q fv a b w) (hW : ∀ k, a ≤ k → k < b → W.heap[k]? = w.heap[k]?) : Tests q fv a b W := by
  obtain ⟨f, lb, h1, h2, h3⟩ := h
  exact ⟨f, lb, h1, h2, fun V hV x => h3 V (fun k k1 k2 => (hV k k1 k2).trans (hW k k1 k2)) x⟩

set_option maxRecDepth 100000 in
set_option maxHeartbeats 4000000 in
theorem none_any (x : Wa) (w : World) : Calls Try.prog 38 #[.agg #[txt (wP x), .int .i64 (wC x), .bool (wK x)]] w (One (.bool false) w) := by
  go_enter Try.func38, Try.ntmps38
  go_wp2_with (refine wpList_box_blk rfl 31 _ rfl (wac x) rfl ?_)
  intro w1 b1 b2 b3
  have HB := Lib.hid b3
  clear b1 b2 b3
  go_wp2
  go_ret
  exact ⟨rfl, HB.out⟩

set_option maxRecDepth 100000 in
set_option maxHeartbeats 4000000 in
theorem client_any (x : Wa) (z : Int) (g : Nat) (w : World) (hb : Blk w g [.int .i64 z] 3) : Calls Try.prog 37 #[.agg #[txt (wP x), .int .i64 (wC x), .bool (wK x)], .pointer (some ⟨g, 0, none⟩)] w (One (.bool (wC x == z)) w) := by
  have hlt := hb.lt
  have HX := Lib.hid hb
  clear hb
  go_enter Try.func37, Try.ntmps37
  go_wp2_with (refine wpList_box_blk rfl 31 _ rfl (wac x) rfl ?_)
  intro w1 b1 b2 b3
  have HB := Lib.hid b3
  have Y := HX.out.below b3 hlt
  have c0 := Y.at_ 0 _ rfl
  have d1 := b1.at_ 1 _ rfl
  obtain ⟨g1, hg1⟩ : ∃ g, w.heap.size = g := ⟨_, rfl⟩
  rw [hg1] at d1 ⊢
  clear b1 b2 b3 Y
  go_wp2
  go_ret
  exact ⟨rfl, HB.out⟩

/-- What the closure of a change answers. -/
def askB (c : Ch) (par : List UInt8) (ok : Bool) (x : Wa) : Bool := if wK x = true then ok && decide (wP x = par) else decide (wP x = cP c)

set_option maxRecDepth 100000 in
set_option maxHeartbeats 4000000 in
theorem ask_any (c : Ch) (par : List UInt8) (ok : Bool) (x : Wa) (g0 g1 g2 : Nat) (w : World) (h0 : Blk w g0 (chc c) 26) (h1 : Blk w g1 [txt par] 9) (h2 : Blk w g2 [.bool ok] 4) :
    Calls Try.prog 40 #[.agg #[txt (wP x), .int .i64 (wC x), .bool (wK x)], .pointer (some ⟨g2, 0, none⟩), .pointer (some ⟨g1, 0, none⟩), .pointer (some ⟨g0, 0, none⟩)] w (One (.bool (askB c par ok x)) w) := by
  have l0 := h0.lt
  have l1 := h1.lt
  have l2 := h2.lt
  have H0 := Lib.hid h0
  have H1 := Lib.hid h1
  have H2 := Lib.hid h2
  clear h0 h1 h2
  obtain ⟨R, hR⟩ : ∃ R, askB c par ok x = R := ⟨_, rfl⟩
  have HR := Lib.hid hR
  rw [hR]
  clear hR
  go_enter Try.func40, Try.ntmps40
  go_wp2_with (refine wpList_box_blk rfl 31 _ rfl (wac x) rfl ?_)
  intro w1 b1 b2 b3
  have HB := Lib.hid b3
  have Y0 := H0.out.below b3 l0
  have Y1 := H1.out.below b3 l1
  have Y2 := H2.out.below b3 l2
  have e0 := Y0.at_ 1 _ rfl
  have e1 := Y1.at_ 0 _ rfl
  have e2 := Y2.at_ 0 _ rfl
  have d0 := b1.at_ 0 _ rfl
  have d2 := b1.at_ 2 _ rfl
  obtain ⟨g3, hg3⟩ : ∃ g, w.heap.size = g := ⟨_, rfl⟩
  rw [hg3] at d0 d2 ⊢
  clear b1 b2 b3 Y0 Y1 Y2 H0 H1 H2
  obtain ⟨p, hp⟩ : ∃ p, wP x = p := ⟨_, rfl⟩
  obtain ⟨q, hq⟩ : ∃ q, cP c = q := ⟨_, rfl⟩
  obtain ⟨kd, hkd⟩ : ∃ kd, wK x = kd := ⟨_, rfl⟩
  have hE : Hid (R = if kd = true then ok && decide (p = par) else decide (p = q)) := by
    show _ = _
    rw [← HR.out]
    unfold askB
    rw [hp, hq, hkd]
  rw [hp] at d0 ⊢
  rw [hkd] at d2 ⊢
  have e0b : w1.cell? ⟨g0, 1, none⟩ = some (txt q) := by rw [← hq]; exact e0
  clear e0
  clear hp hq hkd HR
  cases kd
  · by_cases hpq : p = q
    · have hb := txt_eqE p q hpq
      have HF : Hid (R = true) := by show _ = _; rw [hE.out, if_neg (by simp), decide_eq_true hpq]
      clear hpq
      go_wp2
      go_ret
      exact ⟨by rw [HF.out]; rfl, HB.out⟩
    · have hb := txt_neE p q hpq
      have HF : Hid (R = false) := by show _ = _; rw [hE.out, if_neg (by simp), decide_eq_false hpq]
      clear hpq
      go_wp2
      go_ret
      exact ⟨by rw [HF.out]; rfl, HB.out⟩
  · cases ok
    · have HF : Hid (R = false) := by show _ = _; rw [hE.out, if_pos rfl, Bool.false_and]
      go_wp2
      go_ret
      exact ⟨by rw [HF.out]; rfl, HB.out⟩
    by_cases hpq : p = par
    · have hb := txt_eqE p par hpq
      have HF : Hid (R = true) := by show _ = _; rw [hE.out, if_pos rfl, decide_eq_true hpq]; rfl
      clear hpq
      go_wp2
      go_ret
      exact ⟨by rw [HF.out]; rfl, HB.out⟩
    · have hb := txt_neE p par hpq
      have HF : Hid (R = false) := by show _ = _; rw [hE.out, if_pos rfl, decide_eq_false hpq]; rfl
      clear hpq
      go_wp2
      go_ret
      exact ⟨by rw [HF.out]; rfl, HB.out⟩
theorem clientIs (z : Int) (g : Nat) (w : World) (hb : Blk w g [.int .i64 z] 3) : Tests (fun x => wC x == z) (.func (.func 37) #[] #[.pointer (some ⟨g, 0, none⟩)]) g (g + 1) w :=
  ⟨_, _, rfl, fun _ _ => rfl, fun W hW x => client_any x z g W (hb.same (hW g (Nat.le_refl _) (by omega)))⟩
theorem noneIs (a b : Nat) (w : World) : Tests (fun _ => false) (.func (.func 38) #[] #[]) a b w :=
  ⟨_, _, rfl, fun _ _ => rfl, fun W _ x => none_any x W⟩
theorem askIs (c : Ch) (par : List UInt8) (ok : Bool) (g0 g1 g2 a b : Nat) (w : World) (h0 : Blk w g0 (chc c) 26) (h1 : Blk w g1 [txt par] 9) (h2 : Blk w g2 [.bool ok] 4)
    (a0 : a ≤ g0 ∧ g0 < b) (a1 : a ≤ g1 ∧ g1 < b) (a2 : a ≤ g2 ∧ g2 < b) :
    Tests (askB c par ok) (.func (.func 40) #[] #[.pointer (some ⟨g2, 0, none⟩), .pointer (some ⟨g1, 0, none⟩), .pointer (some ⟨g0, 0, none⟩)]) a b w :=
  ⟨_, _, rfl, fun _ _ => rfl, fun W hW x => ask_any c par ok x g0 g1 g2 W (h0.same (hW g0 a0.1 a0.2)) (h1.same (hW g1 a1.1 a1.2)) (h2.same (hW g2 a2.1 a2.2))⟩
end Go.Proofs.Ytmiomfonglmfjaa
