/-
  No cell of these rows narrows 'for every input' (looked for: loops, veiled, ifaces, maps, wideKeys, modest, calm, conditions, laid).
  DERIVED. THE GIVEN ROWS OF THIS SEAT. 5 by the template 'for every input the law returns true; each argument reads behind the call as it read before'; 0 by the template 'total and deterministic' (their statements: YtklbegioifpfjaaTotals.lean).
  GIVEN WITH THE SEED: the statements are not yours to turn. If you find one false, say at which input.
  Laid BY PROGRAM, IN A SANDBOX (cutbox-rows.mjs): the forced cells as the released guide's own fill.sh prints them over the translation 9762be0503282cc4… (all of the seat's roots in one cut). By AI agents, Wed Nov 11 2026. No macro, syntax, notation, axiom, sorry.
-/
import Derived.Test.YtklbegioifpfjaaChecked
import GoSem.Claim
import GoSem.ClaimJoined
import GoSem.ClaimMapViews
import Derived.JoinedTies
import Derived.KernelRfl
namespace Go.Proofs.Ytklbegioifpfjaa
/- THE CELL 'sum', in the pinned program and in every row, IS THE sha256 OF THE DUMP (.gsa) THAT YtklbegioifpfjaaProg.lean LOADS. Nothing in Lean hashes anything: it is a label: what it is worth is what the hold of that sum in a sandbox is worth. -/
noncomputable def Try.pinned : Pinned := { name := "ytklbegioifpfjaa", sum := "9762be0503282cc48dd3f6d64f8bb96f699feb743444a157dcf7fb23ab108b0e", checked := Try.checked }
namespace Rows
def none {H : Type} : Left H := { results := [], args := [] }

/-- 'consistorylaw03.DigitsTells': WHATEVER THE INPUT: true; the input reads as it did. -/
def digitsTellsSpec : ChangeSpec := { name := "digitsTells", fn := fun _ => fun
  | [d1, d2, d3] => { results := [.lit (.bool true)], args := [d1, d2, d3] }
  | _ => none }
def digitsTellsRow : OpenClaim := { program := "ytklbegioifpfjaa", sum := "9762be0503282cc48dd3f6d64f8bb96f699feb743444a157dcf7fb23ab108b0e", func := "consistory/consistorylaw03.DigitsTells", spec := "digitsTells", apart := false }
def DigitsTellsSaid : Prop := digitsTellsRow.holds Try.pinned (OpenSpec.ofChange digitsTellsSpec)

/-- ITS FALSE NEIGHBOUR: 'it returns false'. Refute it at one input. -/
def digitsTellsWrong : ChangeSpec := { name := "digitsTells", fn := fun _ => fun
  | [d1, d2, d3] => { results := [.lit (.bool false)], args := [d1, d2, d3] }
  | _ => none }
def DigitsTellsWrongFalsely : Prop := digitsTellsRow.holds Try.pinned (OpenSpec.ofChange digitsTellsWrong)

/-- 'consistorylaw03.DigitsAll': WHATEVER THE INPUT: true; the input reads as it did. -/
def digitsAllSpec : ChangeSpec := { name := "digitsAll", fn := fun _ => fun
  | [d1, d2] => { results := [.lit (.bool true)], args := [d1, d2] }
  | _ => none }
def digitsAllRow : OpenClaim := { program := "ytklbegioifpfjaa", sum := "9762be0503282cc48dd3f6d64f8bb96f699feb743444a157dcf7fb23ab108b0e", func := "consistory/consistorylaw03.DigitsAll", spec := "digitsAll", apart := false }
def DigitsAllSaid : Prop := digitsAllRow.holds Try.pinned (OpenSpec.ofChange digitsAllSpec)

/-- ITS FALSE NEIGHBOUR: 'it returns false'. Refute it at one input. -/
def digitsAllWrong : ChangeSpec := { name := "digitsAll", fn := fun _ => fun
  | [d1, d2] => { results := [.lit (.bool false)], args := [d1, d2] }
  | _ => none }
def DigitsAllWrongFalsely : Prop := digitsAllRow.holds Try.pinned (OpenSpec.ofChange digitsAllWrong)

/-- 'consistorylaw03.DigitsCheck': WHATEVER THE INPUT: true; the input reads as it did. -/
def digitsCheckSpec : ChangeSpec := { name := "digitsCheck", fn := fun _ => fun
  | [d1, d2, d3] => { results := [.lit (.bool true)], args := [d1, d2, d3] }
  | _ => none }
def digitsCheckRow : OpenClaim := { program := "ytklbegioifpfjaa", sum := "9762be0503282cc48dd3f6d64f8bb96f699feb743444a157dcf7fb23ab108b0e", func := "consistory/consistorylaw03.DigitsCheck", spec := "digitsCheck", apart := false }
def DigitsCheckSaid : Prop := digitsCheckRow.holds Try.pinned (OpenSpec.ofChange digitsCheckSpec)

/-- ITS FALSE NEIGHBOUR: 'it returns false'. Refute it at one input. -/
def digitsCheckWrong : ChangeSpec := { name := "digitsCheck", fn := fun _ => fun
  | [d1, d2, d3] => { results := [.lit (.bool false)], args := [d1, d2, d3] }
  | _ => none }
def DigitsCheckWrongFalsely : Prop := digitsCheckRow.holds Try.pinned (OpenSpec.ofChange digitsCheckWrong)

/-- 'consistorylaw03.DigitsBytes': WHATEVER THE INPUT: true; the input reads as it did. -/
def digitsBytesSpec : ChangeSpec := { name := "digitsBytes", fn := fun _ => fun
  | [d1, d2] => { results := [.lit (.bool true)], args := [d1, d2] }
  | _ => none }
def digitsBytesRow : OpenClaim := { program := "ytklbegioifpfjaa", sum := "9762be0503282cc48dd3f6d64f8bb96f699feb743444a157dcf7fb23ab108b0e", func := "consistory/consistorylaw03.DigitsBytes", spec := "digitsBytes", apart := false }
def DigitsBytesSaid : Prop := digitsBytesRow.holds Try.pinned (OpenSpec.ofChange digitsBytesSpec)

/-- ITS FALSE NEIGHBOUR: 'it returns false'. Refute it at one input. -/
def digitsBytesWrong : ChangeSpec := { name := "digitsBytes", fn := fun _ => fun
  | [d1, d2] => { results := [.lit (.bool false)], args := [d1, d2] }
  | _ => none }
def DigitsBytesWrongFalsely : Prop := digitsBytesRow.holds Try.pinned (OpenSpec.ofChange digitsBytesWrong)

/-- 'consistorylaw03.DigitsCounts': WHATEVER THE INPUT: true; the input reads as it did. -/
def digitsCountsSpec : ChangeSpec := { name := "digitsCounts", fn := fun _ => fun
  | [d1, d2] => { results := [.lit (.bool true)], args := [d1, d2] }
  | _ => none }
def digitsCountsRow : OpenClaim := { program := "ytklbegioifpfjaa", sum := "9762be0503282cc48dd3f6d64f8bb96f699feb743444a157dcf7fb23ab108b0e", func := "consistory/consistorylaw03.DigitsCounts", spec := "digitsCounts", apart := false }
def DigitsCountsSaid : Prop := digitsCountsRow.holds Try.pinned (OpenSpec.ofChange digitsCountsSpec)

/-- ITS FALSE NEIGHBOUR: 'it returns false'. Refute it at one input. -/
def digitsCountsWrong : ChangeSpec := { name := "digitsCounts", fn := fun _ => fun
  | [d1, d2] => { results := [.lit (.bool false)], args := [d1, d2] }
  | _ => none }
def DigitsCountsWrongFalsely : Prop := digitsCountsRow.holds Try.pinned (OpenSpec.ofChange digitsCountsWrong)

/- THE SECOND FORM. 'bulk': how many values and letters a reading holds, each counted each time it is reached (what is shared counts as often as it is met; a slice's spare places count too). A statement '..UptoSaid' is the law's where the arguments, and the package variables that the reading takes, are together of bulk at most 1048576: NARROWER than '..Said'. Prove '..Said' where nothing that the law and all that it calls make is longer than what came in: it says more and counts as full. Else prove '..UptoSaid'. A law counts once. -/
mutual
def uptoBulk {H : Type} : DataW H → Nat
  | .lit (.string bytes) => bytes.length + 1
  | .lit _ => 1
  | .nil => 1
  | .ptr d => uptoBulk d + 1
  | .slice elems spare => uptoBulkAll elems + uptoBulkAll spare + 1
  | .agg parts => uptoBulkAll parts + 1
  | .iface _ d => uptoBulk d + 1
  | .map entries => uptoBulkEntries entries + 1
  | .held _ => 1
def uptoBulkAll {H : Type} : List (DataW H) → Nat
  | [] => 0
  | d :: r => uptoBulk d + uptoBulkAll r
def uptoBulkEntries {H : Type} : List (Lit × DataW H) → Nat
  | [] => 0
  | x :: r => uptoBulkEntry x + uptoBulkEntries r
def uptoBulkEntry {H : Type} : Lit × DataW H → Nat
  | (.string bytes, d) => bytes.length + uptoBulk d + 1
  | (_, d) => uptoBulk d + 1
 end
def uptoSmall : (H : Type) → List (DataW H) → Bool := fun _ ds => decide (uptoBulkAll ds ≤ 1048576)
def OpenSpec.upto (s : _root_.Go.ChangeSpec) : _root_.Go.OpenSpec := { _root_.Go.OpenSpec.ofChange s with cond := some uptoSmall }

/-- 'consistorylaw03.DigitsTells', WHERE WHAT IT READS IS OF BULK AT MOST 1048576: true; the input reads as it did. -/
def digitsTellsUptoRow : OpenClaim := { program := "ytklbegioifpfjaa", sum := "9762be0503282cc48dd3f6d64f8bb96f699feb743444a157dcf7fb23ab108b0e", func := "consistory/consistorylaw03.DigitsTells", spec := "digitsTells", apart := false, narrowed := true }
def DigitsTellsUptoSaid : Prop := digitsTellsUptoRow.holds Try.pinned (OpenSpec.upto digitsTellsSpec)

/-- 'consistorylaw03.DigitsAll', WHERE WHAT IT READS IS OF BULK AT MOST 1048576: true; the input reads as it did. -/
def digitsAllUptoRow : OpenClaim := { program := "ytklbegioifpfjaa", sum := "9762be0503282cc48dd3f6d64f8bb96f699feb743444a157dcf7fb23ab108b0e", func := "consistory/consistorylaw03.DigitsAll", spec := "digitsAll", apart := false, narrowed := true }
def DigitsAllUptoSaid : Prop := digitsAllUptoRow.holds Try.pinned (OpenSpec.upto digitsAllSpec)

/-- 'consistorylaw03.DigitsCheck', WHERE WHAT IT READS IS OF BULK AT MOST 1048576: true; the input reads as it did. -/
def digitsCheckUptoRow : OpenClaim := { program := "ytklbegioifpfjaa", sum := "9762be0503282cc48dd3f6d64f8bb96f699feb743444a157dcf7fb23ab108b0e", func := "consistory/consistorylaw03.DigitsCheck", spec := "digitsCheck", apart := false, narrowed := true }
def DigitsCheckUptoSaid : Prop := digitsCheckUptoRow.holds Try.pinned (OpenSpec.upto digitsCheckSpec)

/-- 'consistorylaw03.DigitsBytes', WHERE WHAT IT READS IS OF BULK AT MOST 1048576: true; the input reads as it did. -/
def digitsBytesUptoRow : OpenClaim := { program := "ytklbegioifpfjaa", sum := "9762be0503282cc48dd3f6d64f8bb96f699feb743444a157dcf7fb23ab108b0e", func := "consistory/consistorylaw03.DigitsBytes", spec := "digitsBytes", apart := false, narrowed := true }
def DigitsBytesUptoSaid : Prop := digitsBytesUptoRow.holds Try.pinned (OpenSpec.upto digitsBytesSpec)

/-- 'consistorylaw03.DigitsCounts', WHERE WHAT IT READS IS OF BULK AT MOST 1048576: true; the input reads as it did. -/
def digitsCountsUptoRow : OpenClaim := { program := "ytklbegioifpfjaa", sum := "9762be0503282cc48dd3f6d64f8bb96f699feb743444a157dcf7fb23ab108b0e", func := "consistory/consistorylaw03.DigitsCounts", spec := "digitsCounts", apart := false, narrowed := true }
def DigitsCountsUptoSaid : Prop := digitsCountsUptoRow.holds Try.pinned (OpenSpec.upto digitsCountsSpec)

end Rows
end Go.Proofs.Ytklbegioifpfjaa
