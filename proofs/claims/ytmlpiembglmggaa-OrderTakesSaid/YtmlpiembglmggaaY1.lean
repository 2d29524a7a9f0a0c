/-
  The document's paths: IsName, for every text.
-/
import Derived.Test.YtmlpiembglmggaaY0
import Derived.Test.YtmlpiembglmggaaLB
import Derived.WalkLawsBesides
namespace Go.Proofs.Ytmlpiembglmggaa
open Go.RowKit

/-- A text. -/
abbrev txt (l : List UInt8) : Value := .string ⟨l.toArray⟩
theorem run_index_txt (s : List UInt8) (i : Nat) (hi : i < s.length) (w : World) : (Instr.index 9 (txt s) (.int .i64 (i : Int))).run Try.prog w = .ok (.int .u8 (((s.getD i 0).toNat : Nat) : Int)) w := by
  have h := run_index_string (P := Try.prog) (w := w) 9 ⟨s.toArray⟩ .i64 (i : Int) Try.underlying9
  rw [h]
  have hs : (⟨s.toArray⟩ : ByteArray).size = s.length := rfl
  simp [hs, hi]
  rfl
theorem nameB_of (s : List UInt8) (b : Bool) (h : s.all chrB = b) : nameB s = (b && (decide (1 ≤ s.length) && decide (s.length ≤ 30))) := by
  unfold nameB
  rw [h, Bool.and_assoc]

end Go.Proofs.Ytmlpiembglmggaa
