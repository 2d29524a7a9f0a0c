/-
  The law's live question 'alive' answers true, in every world; what was there stays.
-/
import Derived.Test.YtibapagfpadiiaaA5
namespace Go.Proofs.Ytibapagfpadiiaa
open Go.RowKit
set_option linter.unusedVariables false

def TrueStays (w : World) (e : Ending) (w' : World) : Prop := e = .returned (.bool true) ∧ Below w.heap.size w w'

theorem Own.made (e : TypeId) (w : World) : Own e (w.alloc (.cells #[] e)) w.heap.size (.slice (some ⟨w.heap.size, 0, none⟩) 0 0) [] :=
  World.ownsRow_made w #[] 0 (Nat.le_refl _) (Nat.zero_le _) rfl

set_option maxHeartbeats 1000000 in
theorem alive_any (w : World) : Calls Try.prog 9 #[] w (TrueStays w) := by
  obtain ⟨i0, hi, hz0, hz1, hz2⟩ := info_parts info5
  go_enter Try.func9, Try.ntmps9
  go_wp2_with fail
  refine (put_any _ [] 300 w (Rd.nil _ _) (by omega) (by omega) (by simp)).mono ?_
  rintro e w1 ⟨v1, rfl, hown1, hb1⟩
  rw [show [] ++ enc (300 : Int).toNat = [2, 1, 44] from by decide] at hown1
  have HO1 := Lib.hid hown1
  have HB1 := Lib.hid hb1
  have hs1 := hb1.size
  clear hown1 hb1
  go_wp2_with (at_builtin; refine wpList_app rfl _ _ 22 rfl 5 i0 Try.underlying22 hi hz0 hz1 hz2 w1.heap.size w1.heap.size _ _ [] [2, 1, 44] rfl (Own.made 5 w1) rfl (HO1.out.rd.below ((Below.refl _ _).alloc (Nat.le_refl _) _)) ?c1 ?c2 ?_)
  case c1 => decide
  case c2 => simp
  intro v2 w2 hown2 hb2
  have HO2 : Hid (Own 5 w2 w1.heap.size v2 [2, 1, 44]) := hown2
  have hb2' : Below w1.heap.size w1 w2 := ((Below.refl _ _).alloc (Nat.le_refl _) _).trans hb2
  have HB2 := Lib.hid hb2'
  have hs2 := hb2'.size
  clear hown2 hb2 hb2'
  go_wp2_with (at_builtin; refine wpList_app1 rfl _ _ 22 rfl 5 i0 Try.underlying22 hi hz0 hz1 hz2 w1.heap.size v2 [2, 1, 44] 7 ⟨w2.heap.size, 0, none⟩ rfl (HO2.out.alloc _) rfl ?d1 ?d2 ?d3 ?_)
  case d1 => simp
  case d2 => decide
  case d3 => simp; omega
  intro v3 w3 hown3 hb3
  have HO3 : Hid (Own 5 w3 w1.heap.size v3 [2, 1, 44, 7]) := hown3
  have hb3' : Below w1.heap.size w2 w3 := ((Below.refl _ _).alloc hs2 _).trans hb3
  have HB3 := Lib.hid hb3'
  have hs3 := hb3'.size
  clear hown3 hb3 hb3'
  go_wp2_with fail
  refine (take_any v3 [2, 1, 44, 7] w3 HO3.out.rd (by decide)).mono ?_
  rintro e w4 ⟨v4, rfl, hown4, hb4⟩
  rw [show takeN [2, 1, 44, 7] = (300, [7], 0) from by decide] at hown4 ⊢
  have HO4 := Lib.hid hown4
  have HB4 := Lib.hid hb4
  have hs4 := hb4.size
  clear hown4 hb4
  go_wp2_with fail
  refine (take_any _ [9] _ ((Rd.one 5 w4 9).more (by simp)) (by decide)).mono ?_
  rintro e w5 ⟨v5, rfl, hown5, hb5⟩
  rw [show takeN [9] = (0, [], 3) from by decide]
  have hb5' : Below w4.heap.size w4 w5 := ((Below.refl _ _).alloc (Nat.le_refl _) _).trans (hb5.mono (by simp))
  have HB5 := Lib.hid hb5'
  have hs5 := hb5'.size
  clear hown5 hb5 hb5'
  have hr1 : Rd w1.heap.size w5 v1 [2, 1, 44] := (((HO1.out.rd.below HB2.out).below HB3.out).below (HB4.out.mono (by omega))).below (HB5.out.mono (by omega))
  obtain ⟨A1, c1, hv1, _, _⟩ := hr1.shape
  obtain ⟨A4, c4, hv4, _, _⟩ := HO4.out.rd.shape
  rw [hv1] at hr1 ⊢
  have hst : (convert 22 9 (.slice A1 3 c1)).run Try.prog w5 = .ok (.string ⟨#[2, 1, 44]⟩) w5 := run_string_rd 22 9 5 Try.underlying22 Try.underlying5 Try.underlying9 hr1
  rw [hv4]
  clear hv1 hv4 hr1
  go_wp2_with fail
  refine (size_any 0 w5 (by omega) (by omega)).mono ?_
  rintro e w6 ⟨rfl, rfl⟩
  rw [show wid (0 : Int).toNat = 0 from rfl]
  go_wp2
  go_ret
  exact ⟨rfl, ((((HB1.out.trans (HB2.out.mono hs1)).trans (HB3.out.mono hs1)).trans (HB4.out.mono (by omega))).trans (HB5.out.mono (by omega)))⟩
end Go.Proofs.Ytibapagfpadiiaa
