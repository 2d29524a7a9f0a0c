/-
  No cell of these rows narrows 'for every input' (looked for: loops, veiled, ifaces, maps, wideKeys, modest, calm, conditions, laid).
  DERIVED. THE GIVEN ROWS OF THIS SEAT. 5 by the template 'for every input the law returns true; each argument reads behind the call as it read before'; 0 by the template 'total and deterministic' (their statements: YtmlpiembglmggaaTotals.lean).
  GIVEN WITH THE SEED: the statements are not yours to turn. If you find one false, say at which input.
  Laid BY PROGRAM, IN A SANDBOX (cutbox-rows.mjs): the forced cells as the released guide's own fill.sh prints them over the translation def3362ddd66cd0f… (all of the seat's roots in one cut). By AI agents, Wed Nov 11 2026. No macro, syntax, notation, axiom, sorry.
-/
import Derived.Test.YtmlpiembglmggaaChecked
import GoSem.Claim
import GoSem.ClaimJoined
import GoSem.ClaimMapViews
import Derived.JoinedTies
import Derived.KernelRfl
namespace Go.Proofs.Ytmlpiembglmggaa
/- THE CELL 'sum', in the pinned program and in every row, IS THE sha256 OF THE DUMP (.gsa) THAT YtmlpiembglmggaaProg.lean LOADS. Nothing in Lean hashes anything: it is a label: what it is worth is what the hold of that sum in a sandbox is worth. -/
noncomputable def Try.pinned : Pinned := { name := "ytmlpiembglmggaa", sum := "def3362ddd66cd0f7bc37ab771d8e52e109dcb7e1af6b86aa5c3eb8220a2afeb", checked := Try.checked }
namespace Rows
def none {H : Type} : Left H := { results := [], args := [] }

/-- 'consistorylaw12.OrderWrites': WHATEVER THE INPUT: true; the input reads as it did. -/
def orderWritesSpec : ChangeSpec := { name := "orderWrites", fn := fun _ => fun
  | [d1, d2, d3] => { results := [.lit (.bool true)], args := [d1, d2, d3] }
  | _ => none }
def orderWritesRow : OpenClaim := { program := "ytmlpiembglmggaa", sum := "def3362ddd66cd0f7bc37ab771d8e52e109dcb7e1af6b86aa5c3eb8220a2afeb", func := "consistory/consistorylaw12.OrderWrites", spec := "orderWrites", apart := false }
def OrderWritesSaid : Prop := orderWritesRow.holds Try.pinned (OpenSpec.ofChange orderWritesSpec)

/-- ITS FALSE NEIGHBOUR: 'it returns false'. Refute it at one input. -/
def orderWritesWrong : ChangeSpec := { name := "orderWrites", fn := fun _ => fun
  | [d1, d2, d3] => { results := [.lit (.bool false)], args := [d1, d2, d3] }
  | _ => none }
def OrderWritesWrongFalsely : Prop := orderWritesRow.holds Try.pinned (OpenSpec.ofChange orderWritesWrong)

/-- 'consistorylaw12.OrderTakes': WHATEVER THE INPUT: true; the input reads as it did. -/
def orderTakesSpec : ChangeSpec := { name := "orderTakes", fn := fun _ => fun
  | [d] => { results := [.lit (.bool true)], args := [d] }
  | _ => none }
def orderTakesRow : OpenClaim := { program := "ytmlpiembglmggaa", sum := "def3362ddd66cd0f7bc37ab771d8e52e109dcb7e1af6b86aa5c3eb8220a2afeb", func := "consistory/consistorylaw12.OrderTakes", spec := "orderTakes", apart := false }
def OrderTakesSaid : Prop := orderTakesRow.holds Try.pinned (OpenSpec.ofChange orderTakesSpec)

/-- ITS FALSE NEIGHBOUR: 'it returns false'. Refute it at one input. -/
def orderTakesWrong : ChangeSpec := { name := "orderTakes", fn := fun _ => fun
  | [d] => { results := [.lit (.bool false)], args := [d] }
  | _ => none }
def OrderTakesWrongFalsely : Prop := orderTakesRow.holds Try.pinned (OpenSpec.ofChange orderTakesWrong)

/-- 'consistorylaw12.OrderBack': WHATEVER THE INPUT: true; the input reads as it did. -/
def orderBackSpec : ChangeSpec := { name := "orderBack", fn := fun _ => fun
  | [d1, d2, d3] => { results := [.lit (.bool true)], args := [d1, d2, d3] }
  | _ => none }
def orderBackRow : OpenClaim := { program := "ytmlpiembglmggaa", sum := "def3362ddd66cd0f7bc37ab771d8e52e109dcb7e1af6b86aa5c3eb8220a2afeb", func := "consistory/consistorylaw12.OrderBack", spec := "orderBack", apart := false }
def OrderBackSaid : Prop := orderBackRow.holds Try.pinned (OpenSpec.ofChange orderBackSpec)

/-- ITS FALSE NEIGHBOUR: 'it returns false'. Refute it at one input. -/
def orderBackWrong : ChangeSpec := { name := "orderBack", fn := fun _ => fun
  | [d1, d2, d3] => { results := [.lit (.bool false)], args := [d1, d2, d3] }
  | _ => none }
def OrderBackWrongFalsely : Prop := orderBackRow.holds Try.pinned (OpenSpec.ofChange orderBackWrong)

/-- 'consistorylaw12.OrderOnly': WHATEVER THE INPUT: true; the input reads as it did. -/
def orderOnlySpec : ChangeSpec := { name := "orderOnly", fn := fun _ => fun
  | [d] => { results := [.lit (.bool true)], args := [d] }
  | _ => none }
def orderOnlyRow : OpenClaim := { program := "ytmlpiembglmggaa", sum := "def3362ddd66cd0f7bc37ab771d8e52e109dcb7e1af6b86aa5c3eb8220a2afeb", func := "consistory/consistorylaw12.OrderOnly", spec := "orderOnly", apart := false }
def OrderOnlySaid : Prop := orderOnlyRow.holds Try.pinned (OpenSpec.ofChange orderOnlySpec)

/-- ITS FALSE NEIGHBOUR: 'it returns false'. Refute it at one input. -/
def orderOnlyWrong : ChangeSpec := { name := "orderOnly", fn := fun _ => fun
  | [d] => { results := [.lit (.bool false)], args := [d] }
  | _ => none }
def OrderOnlyWrongFalsely : Prop := orderOnlyRow.holds Try.pinned (OpenSpec.ofChange orderOnlyWrong)

/-- 'consistorylaw12.OrderUnused': WHATEVER THE INPUT: true; the input reads as it did. -/
def orderUnusedSpec : ChangeSpec := { name := "orderUnused", fn := fun _ => fun
  | [d1, d2] => { results := [.lit (.bool true)], args := [d1, d2] }
  | _ => none }
def orderUnusedRow : OpenClaim := { program := "ytmlpiembglmggaa", sum := "def3362ddd66cd0f7bc37ab771d8e52e109dcb7e1af6b86aa5c3eb8220a2afeb", func := "consistory/consistorylaw12.OrderUnused", spec := "orderUnused", apart := false }
def OrderUnusedSaid : Prop := orderUnusedRow.holds Try.pinned (OpenSpec.ofChange orderUnusedSpec)

/-- ITS FALSE NEIGHBOUR: 'it returns false'. Refute it at one input. -/
def orderUnusedWrong : ChangeSpec := { name := "orderUnused", fn := fun _ => fun
  | [d1, d2] => { results := [.lit (.bool false)], args := [d1, d2] }
  | _ => none }
def OrderUnusedWrongFalsely : Prop := orderUnusedRow.holds Try.pinned (OpenSpec.ofChange orderUnusedWrong)

/- THE SECOND FORM. 'bulk': how many values and letters a reading holds, each counted each time it is reached (what is shared counts as often as it is met; a slice's spare places count too). A statement '..UptoSaid' is the law's where the arguments, and the package variables that the reading takes, are together of bulk at most 1048576: NARROWER than '..Said'. Prove '..Said' where nothing that the law and all that it calls make is longer than what came in: it says more and counts as full. Else prove '..UptoSaid'. A law counts once. -/
mutual
def uptoBulk {H : Type} : DataW H → Nat
  | .lit (.string bytes) => bytes.length + 1
  | .lit _ => 1
  | .nil => 1
  | .ptr d => uptoBulk d + 1
  | .slice elems spare => uptoBulkAll elems + uptoBulkAll spare + 1
  | .agg parts => uptoBulkAll parts + 1
  | .iface _ d => uptoBulk d + 1
  | .map entries => uptoBulkEntries entries + 1
  | .held _ => 1
def uptoBulkAll {H : Type} : List (DataW H) → Nat
  | [] => 0
  | d :: r => uptoBulk d + uptoBulkAll r
def uptoBulkEntries {H : Type} : List (Lit × DataW H) → Nat
  | [] => 0
  | x :: r => uptoBulkEntry x + uptoBulkEntries r
def uptoBulkEntry {H : Type} : Lit × DataW H → Nat
  | (.string bytes, d) => bytes.length + uptoBulk d + 1
  | (_, d) => uptoBulk d + 1
 end
def uptoSmall : (H : Type) → List (DataW H) → Bool := fun _ ds => decide (uptoBulkAll ds ≤ 1048576)
def OpenSpec.upto (s : _root_.Go.ChangeSpec) : _root_.Go.OpenSpec := { _root_.Go.OpenSpec.ofChange s with cond := some uptoSmall }

/-- 'consistorylaw12.OrderWrites', WHERE WHAT IT READS IS OF BULK AT MOST 1048576: true; the input reads as it did. -/
def orderWritesUptoRow : OpenClaim := { program := "ytmlpiembglmggaa", sum := "def3362ddd66cd0f7bc37ab771d8e52e109dcb7e1af6b86aa5c3eb8220a2afeb", func := "consistory/consistorylaw12.OrderWrites", spec := "orderWrites", apart := false, narrowed := true }
def OrderWritesUptoSaid : Prop := orderWritesUptoRow.holds Try.pinned (OpenSpec.upto orderWritesSpec)

/-- 'consistorylaw12.OrderTakes', WHERE WHAT IT READS IS OF BULK AT MOST 1048576: true; the input reads as it did. -/
def orderTakesUptoRow : OpenClaim := { program := "ytmlpiembglmggaa", sum := "def3362ddd66cd0f7bc37ab771d8e52e109dcb7e1af6b86aa5c3eb8220a2afeb", func := "consistory/consistorylaw12.OrderTakes", spec := "orderTakes", apart := false, narrowed := true }
def OrderTakesUptoSaid : Prop := orderTakesUptoRow.holds Try.pinned (OpenSpec.upto orderTakesSpec)

/-- 'consistorylaw12.OrderBack', WHERE WHAT IT READS IS OF BULK AT MOST 1048576: true; the input reads as it did. -/
def orderBackUptoRow : OpenClaim := { program := "ytmlpiembglmggaa", sum := "def3362ddd66cd0f7bc37ab771d8e52e109dcb7e1af6b86aa5c3eb8220a2afeb", func := "consistory/consistorylaw12.OrderBack", spec := "orderBack", apart := false, narrowed := true }
def OrderBackUptoSaid : Prop := orderBackUptoRow.holds Try.pinned (OpenSpec.upto orderBackSpec)

/-- 'consistorylaw12.OrderOnly', WHERE WHAT IT READS IS OF BULK AT MOST 1048576: true; the input reads as it did. -/
def orderOnlyUptoRow : OpenClaim := { program := "ytmlpiembglmggaa", sum := "def3362ddd66cd0f7bc37ab771d8e52e109dcb7e1af6b86aa5c3eb8220a2afeb", func := "consistory/consistorylaw12.OrderOnly", spec := "orderOnly", apart := false, narrowed := true }
def OrderOnlyUptoSaid : Prop := orderOnlyUptoRow.holds Try.pinned (OpenSpec.upto orderOnlySpec)

/-- 'consistorylaw12.OrderUnused', WHERE WHAT IT READS IS OF BULK AT MOST 1048576: true; the input reads as it did. -/
def orderUnusedUptoRow : OpenClaim := { program := "ytmlpiembglmggaa", sum := "def3362ddd66cd0f7bc37ab771d8e52e109dcb7e1af6b86aa5c3eb8220a2afeb", func := "consistory/consistorylaw12.OrderUnused", spec := "orderUnused", apart := false, narrowed := true }
def OrderUnusedUptoSaid : Prop := orderUnusedUptoRow.holds Try.pinned (OpenSpec.upto orderUnusedSpec)

end Rows
end Go.Proofs.Ytmlpiembglmggaa
