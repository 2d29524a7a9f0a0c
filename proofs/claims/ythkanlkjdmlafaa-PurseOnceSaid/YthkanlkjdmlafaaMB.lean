/-
  The document's lms: Knot, and the law's copy of a tree.
  Package lms: Knot where there is a node, and where there is none.
  The document's lms: Public.
  The law LmsKnots, walked: it answers true for every tree and every number of a node.
-/
import Derived.Test.YthkanlkjdmlafaaMA
import Derived.Test.YthkanlkjdmlafaaLE
namespace Go.Proofs.Ythkanlkjdmlafaa
open Go.RowKit

theorem built_tree0 (f g : Nat → UInt8) (z y : Int) : Try.prog.built 36 [(0, .agg (bys ((List.range 16).map f)).toArray), (1, .agg (bys ((List.range 32).map g)).toArray), (2, .int .i64 z), (3, .int .i64 y)] = some (bys ((List.range 16).map f) ++ (bys ((List.range 32).map g) ++ [Value.int .i64 z, Value.int .i64 y])).toArray := by kernel_rfl
theorem built_tree (I seed : List UInt8) (z y : Int) (hI : I.length = 16) (hs : seed.length = 32) : Try.prog.built 36 [(0, .agg (bys I).toArray), (1, .agg (bys seed).toArray), (2, .int .i64 z), (3, .int .i64 y)] = some (tcs I seed z y).toArray := by
  rw [list_asL I 16 hI, list_asL seed 32 hs]
  exact built_tree0 _ _ _ _
theorem ziTree5 : ∃ z0 : List Value, (Try.prog.info? 36).map (·.zero) = some (some (.agg z0.toArray)) ∧ z0.length = 50 := ⟨bys (List.replicate 16 0) ++ (bys (List.replicate 32 0) ++ [.int .i64 0, .int .i64 0]), by kernel_rfl, by decide⟩

theorem knot_lv (h r : Nat) (h1 : 1 ≤ r) : ∀ m, r < 2 * 2 ^ m → m ≤ h → ∃ n, n ≤ h ∧ 2 ^ (h - n) ≤ r ∧ r < 2 * 2 ^ (h - n) := by
  intro m
  induction m with
  | zero => intro h2 _; exact ⟨h, by omega, by rw [Nat.sub_self]; omega, by rw [Nat.sub_self]; omega⟩
  | succ m ih =>
    intro h2 hm
    by_cases h3 : r < 2 * 2 ^ m
    · exact ih h3 (by omega)
    · refine ⟨h - (m + 1), by omega, ?_, ?_⟩
      · rw [show h - (h - (m + 1)) = m + 1 by omega, Nat.pow_succ]; omega
      · rw [show h - (h - (m + 1)) = m + 1 by omega]; exact h2
end Go.Proofs.Ythkanlkjdmlafaa

namespace Go.Proofs.Ythkanlkjdmlafaa
open Go.RowKit

end Go.Proofs.Ythkanlkjdmlafaa

namespace Go.Proofs.Ythkanlkjdmlafaa
open Go.RowKit

end Go.Proofs.Ythkanlkjdmlafaa

namespace Go.Proofs.Ythkanlkjdmlafaa
open Go.RowKit

theorem z32_bys : z32 = bys (List.replicate 32 0) := by rfl
/-- A call gives bytes that can be read, and an error's number. -/
def Read2 (l : List UInt8) (E : Int) (w : World) (e : Ending) (w' : World) : Prop := ∃ v, e = .returned (.tuple #[v, .int .i64 E]) ∧ Rd w'.heap.size w' v l ∧ Below w.heap.size w w'
theorem Rd.nil0 (B : Nat) (w : World) : Rd B w (.slice none 0 0) [] := ⟨none, 0, rfl, by simp, by unfold maxLen; simp, fun _ => rfl, fun a ha => by cases ha⟩
theorem long5_both (I seed : List UInt8) (z y : Int) (hI : I.length = 16) (hs : seed.length = 32) : ∃ (n E : Int),
    (∀ w, Calls Try.prog 37 #[.agg (tcs I seed z y).toArray] w (TwoD (.int .i64 n) (.int .i64 E) w)) ∧ (∀ w, Calls Try.prog 24 #[.agg (tcs I seed z y).toArray] w (TwoD (.int .i64 n) (.int .i64 E) w)) := by
  rcases tree_or z y with ⟨k, h, hk, hh, rfl, rfl⟩ | hn
  · exact ⟨_, 0, fun w => longT_yes I seed k h w hI hs hk hh, fun w => rfLong_yes I seed k h w hI hs hk hh⟩
  · exact ⟨0, 1, fun w => longT_no I seed z y w hI hs hn, fun w => rfLong_no I seed z y w hI hs hn⟩

end Go.Proofs.Ythkanlkjdmlafaa
