/-
  No cell of these rows narrows 'for every input' (looked for: loops, veiled, ifaces, maps, wideKeys, modest, calm, conditions, laid).
  DERIVED. THE GIVEN ROWS OF THIS SEAT. 3 by the template 'for every input the law returns true; each argument reads behind the call as it read before'; 0 by the template 'total and deterministic' (their statements: YtnemkefmlffigaaGreatTotals.lean).
  GIVEN WITH THE SEED: the statements are not yours to turn. If you find one false, say at which input.
  Laid BY PROGRAM, IN A SANDBOX (cutbox-rows.mjs): the forced cells as the released guide's own fill.sh prints them over the translation e49c2e63589b142f… (all of the seat's roots in one cut). By AI agents, Wed Nov 11 2026. No macro, syntax, notation, axiom, sorry.
-/
import Derived.Test.YtnemkefmlffigaaGreatChecked
import GoSem.Claim
import GoSem.ClaimJoined
import GoSem.ClaimMapViews
import Derived.JoinedTies
import Derived.KernelRfl
namespace Go.Proofs.YtnemkefmlffigaaGreat
/- THE CELL 'sum', in the pinned program and in every row, IS THE sha256 OF THE DUMP (.gsa) THAT YtnemkefmlffigaaGreatProg.lean LOADS. Nothing in Lean hashes anything: it is a label: what it is worth is what the hold of that sum in a sandbox is worth. -/
noncomputable def Tryz.pinned : Pinned := { name := "ytnemkefmlffigaagreat", sum := "e49c2e63589b142f027f9fbede15e4a3da0a6cc370df1990b2381526ad7dc63c", checked := Tryz.checked }
namespace Rows
def none {H : Type} : Left H := { results := [], args := [] }

/-- 'consistorylaw05.LmsKnots': WHATEVER THE INPUT: true; the input reads as it did. -/
def lmsKnotsSpec : ChangeSpec := { name := "lmsKnots", fn := fun _ => fun
  | [d1, d2] => { results := [.lit (.bool true)], args := [d1, d2] }
  | _ => none }
def lmsKnotsRow : OpenClaim := { program := "ytnemkefmlffigaagreat", sum := "e49c2e63589b142f027f9fbede15e4a3da0a6cc370df1990b2381526ad7dc63c", func := "consistory/consistorylaw05.LmsKnots", spec := "lmsKnots", unfollowed := true, recurses := true, apart := false }
def LmsKnotsSaid : Prop := lmsKnotsRow.holds Tryz.pinned (OpenSpec.ofChange lmsKnotsSpec)

/-- ITS FALSE NEIGHBOUR: 'it returns false'. Refute it at one input. -/
def lmsKnotsWrong : ChangeSpec := { name := "lmsKnots", fn := fun _ => fun
  | [d1, d2] => { results := [.lit (.bool false)], args := [d1, d2] }
  | _ => none }
def LmsKnotsWrongFalsely : Prop := lmsKnotsRow.holds Tryz.pinned (OpenSpec.ofChange lmsKnotsWrong)

/-- 'consistorylaw05.LmsSigns': WHATEVER THE INPUT: true; the input reads as it did. -/
def lmsSignsSpec : ChangeSpec := { name := "lmsSigns", fn := fun _ => fun
  | [d1, d2, d3] => { results := [.lit (.bool true)], args := [d1, d2, d3] }
  | _ => none }
def lmsSignsRow : OpenClaim := { program := "ytnemkefmlffigaagreat", sum := "e49c2e63589b142f027f9fbede15e4a3da0a6cc370df1990b2381526ad7dc63c", func := "consistory/consistorylaw05.LmsSigns", spec := "lmsSigns", unfollowed := true, recurses := true, apart := false }
def LmsSignsSaid : Prop := lmsSignsRow.holds Tryz.pinned (OpenSpec.ofChange lmsSignsSpec)

/-- ITS FALSE NEIGHBOUR: 'it returns false'. Refute it at one input. -/
def lmsSignsWrong : ChangeSpec := { name := "lmsSigns", fn := fun _ => fun
  | [d1, d2, d3] => { results := [.lit (.bool false)], args := [d1, d2, d3] }
  | _ => none }
def LmsSignsWrongFalsely : Prop := lmsSignsRow.holds Tryz.pinned (OpenSpec.ofChange lmsSignsWrong)

/-- 'consistorylaw05.LmsVerify': WHATEVER THE INPUT: true; the input reads as it did. -/
def lmsVerifySpec : ChangeSpec := { name := "lmsVerify", fn := fun _ => fun
  | [d1, d2, d3] => { results := [.lit (.bool true)], args := [d1, d2, d3] }
  | _ => none }
def lmsVerifyRow : OpenClaim := { program := "ytnemkefmlffigaagreat", sum := "e49c2e63589b142f027f9fbede15e4a3da0a6cc370df1990b2381526ad7dc63c", func := "consistory/consistorylaw05.LmsVerify", spec := "lmsVerify", unfollowed := true, recurses := true, apart := false }
def LmsVerifySaid : Prop := lmsVerifyRow.holds Tryz.pinned (OpenSpec.ofChange lmsVerifySpec)

/-- ITS FALSE NEIGHBOUR: 'it returns false'. Refute it at one input. -/
def lmsVerifyWrong : ChangeSpec := { name := "lmsVerify", fn := fun _ => fun
  | [d1, d2, d3] => { results := [.lit (.bool false)], args := [d1, d2, d3] }
  | _ => none }
def LmsVerifyWrongFalsely : Prop := lmsVerifyRow.holds Tryz.pinned (OpenSpec.ofChange lmsVerifyWrong)

/- THE SECOND FORM. 'bulk': how many values and letters a reading holds, each counted each time it is reached (what is shared counts as often as it is met; a slice's spare places count too). A statement '..UptoSaid' is the law's where the arguments, and the package variables that the reading takes, are together of bulk at most 1048576: NARROWER than '..Said'. Prove '..Said' where nothing that the law and all that it calls make is longer than what came in: it says more and counts as full. Else prove '..UptoSaid'. A law counts once. -/
mutual
def uptoBulk {H : Type} : DataW H → Nat
  | .lit (.string bytes) => bytes.length + 1
  | .lit _ => 1
  | .nil => 1
  | .ptr d => uptoBulk d + 1
  | .slice elems spare => uptoBulkAll elems + uptoBulkAll spare + 1
  | .agg parts => uptoBulkAll parts + 1
  | .iface _ d => uptoBulk d + 1
  | .map entries => uptoBulkEntries entries + 1
  | .held _ => 1
def uptoBulkAll {H : Type} : List (DataW H) → Nat
  | [] => 0
  | d :: r => uptoBulk d + uptoBulkAll r
def uptoBulkEntries {H : Type} : List (Lit × DataW H) → Nat
  | [] => 0
  | x :: r => uptoBulkEntry x + uptoBulkEntries r
def uptoBulkEntry {H : Type} : Lit × DataW H → Nat
  | (.string bytes, d) => bytes.length + uptoBulk d + 1
  | (_, d) => uptoBulk d + 1
 end
def uptoSmall : (H : Type) → List (DataW H) → Bool := fun _ ds => decide (uptoBulkAll ds ≤ 1048576)
def OpenSpec.upto (s : _root_.Go.ChangeSpec) : _root_.Go.OpenSpec := { _root_.Go.OpenSpec.ofChange s with cond := some uptoSmall }

/-- 'consistorylaw05.LmsKnots', WHERE WHAT IT READS IS OF BULK AT MOST 1048576: true; the input reads as it did. -/
def lmsKnotsUptoRow : OpenClaim := { program := "ytnemkefmlffigaagreat", sum := "e49c2e63589b142f027f9fbede15e4a3da0a6cc370df1990b2381526ad7dc63c", func := "consistory/consistorylaw05.LmsKnots", spec := "lmsKnots", unfollowed := true, recurses := true, apart := false, narrowed := true }
def LmsKnotsUptoSaid : Prop := lmsKnotsUptoRow.holds Tryz.pinned (OpenSpec.upto lmsKnotsSpec)

/-- 'consistorylaw05.LmsSigns', WHERE WHAT IT READS IS OF BULK AT MOST 1048576: true; the input reads as it did. -/
def lmsSignsUptoRow : OpenClaim := { program := "ytnemkefmlffigaagreat", sum := "e49c2e63589b142f027f9fbede15e4a3da0a6cc370df1990b2381526ad7dc63c", func := "consistory/consistorylaw05.LmsSigns", spec := "lmsSigns", unfollowed := true, recurses := true, apart := false, narrowed := true }
def LmsSignsUptoSaid : Prop := lmsSignsUptoRow.holds Tryz.pinned (OpenSpec.upto lmsSignsSpec)

/-- 'consistorylaw05.LmsVerify', WHERE WHAT IT READS IS OF BULK AT MOST 1048576: true; the input reads as it did. -/
def lmsVerifyUptoRow : OpenClaim := { program := "ytnemkefmlffigaagreat", sum := "e49c2e63589b142f027f9fbede15e4a3da0a6cc370df1990b2381526ad7dc63c", func := "consistory/consistorylaw05.LmsVerify", spec := "lmsVerify", unfollowed := true, recurses := true, apart := false, narrowed := true }
def LmsVerifyUptoSaid : Prop := lmsVerifyUptoRow.holds Tryz.pinned (OpenSpec.upto lmsVerifySpec)

end Rows
end Go.Proofs.YtnemkefmlffigaaGreat
