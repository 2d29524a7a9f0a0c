/-
  NARROWER THAN 'FOR EVERY INPUT', by the rows' own cells (each row's printed sentence says how): ShelfMay: laid · ShelfChanges: laid · ShelfAsks: laid · ShelfJust: laid · ShelfDrops: laid · ShelfKids: laid.
  DERIVED. THE GIVEN ROWS OF THIS SEAT. 6 by the template 'for every input the law returns true; each argument reads behind the call as it read before'; 0 by the template 'total and deterministic' (their statements: YtlpakfaoaodaiaaDoorTotals.lean).
  GIVEN WITH THE SEED: the statements are not yours to turn. If you find one false, say at which input.
  Laid BY PROGRAM, IN A SANDBOX (cutbox-rows.mjs): the forced cells as the released guide's own fill.sh prints them over the translation b63928ad2b813136… (all of the seat's roots in one cut). By AI agents, Wed Nov 11 2026. No macro, syntax, notation, axiom, sorry.
-/
import Derived.Test.YtlpakfaoaodaiaaDoorChecked
import GoSem.PinnedTables
import GoSem.Claim
import GoSem.ClaimJoined
import GoSem.ClaimMapViews
import Derived.JoinedTies
import Derived.KernelRfl
namespace Go.Proofs.YtlpakfaoaodaiaaDoor
/- THE CELL 'sum', in the pinned program and in every row, IS THE sha256 OF THE DUMP (.gsa) THAT YtlpakfaoaodaiaaDoorProg.lean LOADS. Nothing in Lean hashes anything: it is a label: what it is worth is what the hold of that sum in a sandbox is worth. -/
noncomputable def Tryd.pinned : Pinned := { name := "ytlpakfaoaodaiaadoor", sum := "b63928ad2b813136f7d52ba3d7c5b4a3887201aa520ce945c9aed7d415caa22b", checked := Tryd.checked }
namespace Rows
def none {H : Type} : Left H := { results := [], args := [] }

/- WHAT THE LISTED PACKAGE-LEVEL VARIABLES READ AS WHEN THE CALL BEGINS. Each datum BY PROGRAM (the guide's laid-datum.mjs) off the statement by which the dump's own 'gosem.cut.vars' lays the variable. In a bare row this is a premise. The card (YtlpakfaoaodaiaaDoorCards.lean) ties it to the program's text. -/
def laid_unicode_utf8_acceptRanges {H : Type} : DataW H := .agg [.agg [.lit (.int .u8 128), .lit (.int .u8 191)], .agg [.lit (.int .u8 160), .lit (.int .u8 191)], .agg [.lit (.int .u8 128), .lit (.int .u8 159)], .agg [.lit (.int .u8 144), .lit (.int .u8 191)], .agg [.lit (.int .u8 128), .lit (.int .u8 143)], .agg [.lit (.int .u8 0), .lit (.int .u8 0)], .agg [.lit (.int .u8 0), .lit (.int .u8 0)], .agg [.lit (.int .u8 0), .lit (.int .u8 0)], .agg [.lit (.int .u8 0), .lit (.int .u8 0)], .agg [.lit (.int .u8 0), .lit (.int .u8 0)], .agg [.lit (.int .u8 0), .lit (.int .u8 0)], .agg [.lit (.int .u8 0), .lit (.int .u8 0)], .agg [.lit (.int .u8 0), .lit (.int .u8 0)], .agg [.lit (.int .u8 0), .lit (.int .u8 0)], .agg [.lit (.int .u8 0), .lit (.int .u8 0)], .agg [.lit (.int .u8 0), .lit (.int .u8 0)]]
/-- One of Go's own tables, pinned by name: the form's constant. -/
def laid_unicode_utf8_first : DataW Unit := Go.Pinned.utf8First

/-- 'consistorylaw09.ShelfMay': WHATEVER THE INPUT: true; the input reads as it did. -/
def shelfMaySpec : ChangeSpec := { name := "shelfMay", fn := fun _ => fun
  | [d1, d2] => { results := [.lit (.bool true)], args := [d1, d2] }
  | _ => none }
def shelfMayRow : OpenClaim := { program := "ytlpakfaoaodaiaadoor", sum := "b63928ad2b813136f7d52ba3d7c5b4a3887201aa520ce945c9aed7d415caa22b", func := "consistory/consistorylaw09.ShelfMay", spec := "shelfMay", inPlace := ["internal/bytealg.CountString", "internal/bytealg.IndexByteString", "internal/bytealg.IndexString", "slices.overlaps[consistory/shelf.Node]"], unfollowed := true, recurses := true, named := ["internal/bytealg.MaxLen", "unicode/utf8.first", "unicode/utf8.acceptRanges"], apart := false, laid := [("unicode/utf8.acceptRanges", laid_unicode_utf8_acceptRanges), ("unicode/utf8.first", laid_unicode_utf8_first)] }
def ShelfMaySaid : Prop := shelfMayRow.holds Tryd.pinned (OpenSpec.ofChange shelfMaySpec)

/-- ITS FALSE NEIGHBOUR: 'it returns false'. Refute it at one input. -/
def shelfMayWrong : ChangeSpec := { name := "shelfMay", fn := fun _ => fun
  | [d1, d2] => { results := [.lit (.bool false)], args := [d1, d2] }
  | _ => none }
def ShelfMayWrongFalsely : Prop := shelfMayRow.holds Tryd.pinned (OpenSpec.ofChange shelfMayWrong)

/-- 'consistorylaw09.ShelfChanges': WHATEVER THE INPUT: true; the input reads as it did. -/
def shelfChangesSpec : ChangeSpec := { name := "shelfChanges", fn := fun _ => fun
  | [d1, d2] => { results := [.lit (.bool true)], args := [d1, d2] }
  | _ => none }
def shelfChangesRow : OpenClaim := { program := "ytlpakfaoaodaiaadoor", sum := "b63928ad2b813136f7d52ba3d7c5b4a3887201aa520ce945c9aed7d415caa22b", func := "consistory/consistorylaw09.ShelfChanges", spec := "shelfChanges", inPlace := ["internal/bytealg.CountString", "internal/bytealg.IndexByteString", "internal/bytealg.IndexString", "slices.overlaps[consistory/shelf.Node]"], unfollowed := true, recurses := true, named := ["internal/bytealg.MaxLen", "unicode/utf8.first", "unicode/utf8.acceptRanges"], apart := false, laid := [("unicode/utf8.acceptRanges", laid_unicode_utf8_acceptRanges), ("unicode/utf8.first", laid_unicode_utf8_first)] }
def ShelfChangesSaid : Prop := shelfChangesRow.holds Tryd.pinned (OpenSpec.ofChange shelfChangesSpec)

/-- ITS FALSE NEIGHBOUR: 'it returns false'. Refute it at one input. -/
def shelfChangesWrong : ChangeSpec := { name := "shelfChanges", fn := fun _ => fun
  | [d1, d2] => { results := [.lit (.bool false)], args := [d1, d2] }
  | _ => none }
def ShelfChangesWrongFalsely : Prop := shelfChangesRow.holds Tryd.pinned (OpenSpec.ofChange shelfChangesWrong)

/-- 'consistorylaw09.ShelfAsks': WHATEVER THE INPUT: true; the input reads as it did. -/
def shelfAsksSpec : ChangeSpec := { name := "shelfAsks", fn := fun _ => fun
  | [d1, d2] => { results := [.lit (.bool true)], args := [d1, d2] }
  | _ => none }
def shelfAsksRow : OpenClaim := { program := "ytlpakfaoaodaiaadoor", sum := "b63928ad2b813136f7d52ba3d7c5b4a3887201aa520ce945c9aed7d415caa22b", func := "consistory/consistorylaw09.ShelfAsks", spec := "shelfAsks", inPlace := ["internal/bytealg.CountString", "internal/bytealg.IndexByteString", "internal/bytealg.IndexString", "slices.overlaps[consistory/shelf.Node]"], unfollowed := true, recurses := true, named := ["internal/bytealg.MaxLen", "unicode/utf8.first", "unicode/utf8.acceptRanges"], apart := false, laid := [("unicode/utf8.acceptRanges", laid_unicode_utf8_acceptRanges), ("unicode/utf8.first", laid_unicode_utf8_first)] }
def ShelfAsksSaid : Prop := shelfAsksRow.holds Tryd.pinned (OpenSpec.ofChange shelfAsksSpec)

/-- ITS FALSE NEIGHBOUR: 'it returns false'. Refute it at one input. -/
def shelfAsksWrong : ChangeSpec := { name := "shelfAsks", fn := fun _ => fun
  | [d1, d2] => { results := [.lit (.bool false)], args := [d1, d2] }
  | _ => none }
def ShelfAsksWrongFalsely : Prop := shelfAsksRow.holds Tryd.pinned (OpenSpec.ofChange shelfAsksWrong)

/-- 'consistorylaw09.ShelfJust': WHATEVER THE INPUT: true; the input reads as it did. -/
def shelfJustSpec : ChangeSpec := { name := "shelfJust", fn := fun _ => fun
  | [d1, d2, d3] => { results := [.lit (.bool true)], args := [d1, d2, d3] }
  | _ => none }
def shelfJustRow : OpenClaim := { program := "ytlpakfaoaodaiaadoor", sum := "b63928ad2b813136f7d52ba3d7c5b4a3887201aa520ce945c9aed7d415caa22b", func := "consistory/consistorylaw09.ShelfJust", spec := "shelfJust", inPlace := ["internal/bytealg.CountString", "internal/bytealg.IndexByteString", "internal/bytealg.IndexString", "slices.overlaps[consistory/shelf.Node]"], unfollowed := true, recurses := true, named := ["internal/bytealg.MaxLen", "unicode/utf8.first", "unicode/utf8.acceptRanges"], apart := false, laid := [("unicode/utf8.acceptRanges", laid_unicode_utf8_acceptRanges), ("unicode/utf8.first", laid_unicode_utf8_first)] }
def ShelfJustSaid : Prop := shelfJustRow.holds Tryd.pinned (OpenSpec.ofChange shelfJustSpec)

/-- ITS FALSE NEIGHBOUR: 'it returns false'. Refute it at one input. -/
def shelfJustWrong : ChangeSpec := { name := "shelfJust", fn := fun _ => fun
  | [d1, d2, d3] => { results := [.lit (.bool false)], args := [d1, d2, d3] }
  | _ => none }
def ShelfJustWrongFalsely : Prop := shelfJustRow.holds Tryd.pinned (OpenSpec.ofChange shelfJustWrong)

/-- 'consistorylaw09.ShelfDrops': WHATEVER THE INPUT: true; the input reads as it did. -/
def shelfDropsSpec : ChangeSpec := { name := "shelfDrops", fn := fun _ => fun
  | [d1, d2] => { results := [.lit (.bool true)], args := [d1, d2] }
  | _ => none }
def shelfDropsRow : OpenClaim := { program := "ytlpakfaoaodaiaadoor", sum := "b63928ad2b813136f7d52ba3d7c5b4a3887201aa520ce945c9aed7d415caa22b", func := "consistory/consistorylaw09.ShelfDrops", spec := "shelfDrops", inPlace := ["internal/bytealg.CountString", "internal/bytealg.IndexByteString", "internal/bytealg.IndexString", "slices.overlaps[consistory/shelf.Node]"], unfollowed := true, recurses := true, named := ["internal/bytealg.MaxLen", "unicode/utf8.first", "unicode/utf8.acceptRanges"], apart := false, laid := [("unicode/utf8.acceptRanges", laid_unicode_utf8_acceptRanges), ("unicode/utf8.first", laid_unicode_utf8_first)] }
def ShelfDropsSaid : Prop := shelfDropsRow.holds Tryd.pinned (OpenSpec.ofChange shelfDropsSpec)

/-- ITS FALSE NEIGHBOUR: 'it returns false'. Refute it at one input. -/
def shelfDropsWrong : ChangeSpec := { name := "shelfDrops", fn := fun _ => fun
  | [d1, d2] => { results := [.lit (.bool false)], args := [d1, d2] }
  | _ => none }
def ShelfDropsWrongFalsely : Prop := shelfDropsRow.holds Tryd.pinned (OpenSpec.ofChange shelfDropsWrong)

/-- 'consistorylaw09.ShelfKids': WHATEVER THE INPUT: true; the input reads as it did. -/
def shelfKidsSpec : ChangeSpec := { name := "shelfKids", fn := fun _ => fun
  | [d1, d2] => { results := [.lit (.bool true)], args := [d1, d2] }
  | _ => none }
def shelfKidsRow : OpenClaim := { program := "ytlpakfaoaodaiaadoor", sum := "b63928ad2b813136f7d52ba3d7c5b4a3887201aa520ce945c9aed7d415caa22b", func := "consistory/consistorylaw09.ShelfKids", spec := "shelfKids", inPlace := ["internal/bytealg.CountString", "internal/bytealg.IndexByteString", "internal/bytealg.IndexString", "slices.overlaps[consistory/shelf.Node]"], unfollowed := true, recurses := true, named := ["internal/bytealg.MaxLen", "unicode/utf8.first", "unicode/utf8.acceptRanges"], apart := false, laid := [("unicode/utf8.acceptRanges", laid_unicode_utf8_acceptRanges), ("unicode/utf8.first", laid_unicode_utf8_first)] }
def ShelfKidsSaid : Prop := shelfKidsRow.holds Tryd.pinned (OpenSpec.ofChange shelfKidsSpec)

/-- ITS FALSE NEIGHBOUR: 'it returns false'. Refute it at one input. -/
def shelfKidsWrong : ChangeSpec := { name := "shelfKids", fn := fun _ => fun
  | [d1, d2] => { results := [.lit (.bool false)], args := [d1, d2] }
  | _ => none }
def ShelfKidsWrongFalsely : Prop := shelfKidsRow.holds Tryd.pinned (OpenSpec.ofChange shelfKidsWrong)

/- THE SECOND FORM. 'bulk': how many values and letters a reading holds, each counted each time it is reached (what is shared counts as often as it is met; a slice's spare places count too). A statement '..UptoSaid' is the law's where the arguments, and the package variables that the reading takes, are together of bulk at most 1048576: NARROWER than '..Said'. Prove '..Said' where nothing that the law and all that it calls make is longer than what came in: it says more and counts as full. Else prove '..UptoSaid'. A law counts once. -/
mutual
def uptoBulk {H : Type} : DataW H → Nat
  | .lit (.string bytes) => bytes.length + 1
  | .lit _ => 1
  | .nil => 1
  | .ptr d => uptoBulk d + 1
  | .slice elems spare => uptoBulkAll elems + uptoBulkAll spare + 1
  | .agg parts => uptoBulkAll parts + 1
  | .iface _ d => uptoBulk d + 1
  | .map entries => uptoBulkEntries entries + 1
  | .held _ => 1
def uptoBulkAll {H : Type} : List (DataW H) → Nat
  | [] => 0
  | d :: r => uptoBulk d + uptoBulkAll r
def uptoBulkEntries {H : Type} : List (Lit × DataW H) → Nat
  | [] => 0
  | x :: r => uptoBulkEntry x + uptoBulkEntries r
def uptoBulkEntry {H : Type} : Lit × DataW H → Nat
  | (.string bytes, d) => bytes.length + uptoBulk d + 1
  | (_, d) => uptoBulk d + 1
 end
def uptoSmall : (H : Type) → List (DataW H) → Bool := fun _ ds => decide (uptoBulkAll ds ≤ 1048576)
def OpenSpec.upto (s : _root_.Go.ChangeSpec) : _root_.Go.OpenSpec := { _root_.Go.OpenSpec.ofChange s with cond := some uptoSmall }

/-- 'consistorylaw09.ShelfMay', WHERE WHAT IT READS IS OF BULK AT MOST 1048576: true; the input reads as it did. -/
def shelfMayUptoRow : OpenClaim := { program := "ytlpakfaoaodaiaadoor", sum := "b63928ad2b813136f7d52ba3d7c5b4a3887201aa520ce945c9aed7d415caa22b", func := "consistory/consistorylaw09.ShelfMay", spec := "shelfMay", inPlace := ["internal/bytealg.CountString", "internal/bytealg.IndexByteString", "internal/bytealg.IndexString", "slices.overlaps[consistory/shelf.Node]"], unfollowed := true, recurses := true, named := ["internal/bytealg.MaxLen", "unicode/utf8.first", "unicode/utf8.acceptRanges"], apart := false, laid := [("unicode/utf8.acceptRanges", laid_unicode_utf8_acceptRanges), ("unicode/utf8.first", laid_unicode_utf8_first)], narrowed := true }
def ShelfMayUptoSaid : Prop := shelfMayUptoRow.holds Tryd.pinned (OpenSpec.upto shelfMaySpec)

/-- 'consistorylaw09.ShelfChanges', WHERE WHAT IT READS IS OF BULK AT MOST 1048576: true; the input reads as it did. -/
def shelfChangesUptoRow : OpenClaim := { program := "ytlpakfaoaodaiaadoor", sum := "b63928ad2b813136f7d52ba3d7c5b4a3887201aa520ce945c9aed7d415caa22b", func := "consistory/consistorylaw09.ShelfChanges", spec := "shelfChanges", inPlace := ["internal/bytealg.CountString", "internal/bytealg.IndexByteString", "internal/bytealg.IndexString", "slices.overlaps[consistory/shelf.Node]"], unfollowed := true, recurses := true, named := ["internal/bytealg.MaxLen", "unicode/utf8.first", "unicode/utf8.acceptRanges"], apart := false, laid := [("unicode/utf8.acceptRanges", laid_unicode_utf8_acceptRanges), ("unicode/utf8.first", laid_unicode_utf8_first)], narrowed := true }
def ShelfChangesUptoSaid : Prop := shelfChangesUptoRow.holds Tryd.pinned (OpenSpec.upto shelfChangesSpec)

/-- 'consistorylaw09.ShelfAsks', WHERE WHAT IT READS IS OF BULK AT MOST 1048576: true; the input reads as it did. -/
def shelfAsksUptoRow : OpenClaim := { program := "ytlpakfaoaodaiaadoor", sum := "b63928ad2b813136f7d52ba3d7c5b4a3887201aa520ce945c9aed7d415caa22b", func := "consistory/consistorylaw09.ShelfAsks", spec := "shelfAsks", inPlace := ["internal/bytealg.CountString", "internal/bytealg.IndexByteString", "internal/bytealg.IndexString", "slices.overlaps[consistory/shelf.Node]"], unfollowed := true, recurses := true, named := ["internal/bytealg.MaxLen", "unicode/utf8.first", "unicode/utf8.acceptRanges"], apart := false, laid := [("unicode/utf8.acceptRanges", laid_unicode_utf8_acceptRanges), ("unicode/utf8.first", laid_unicode_utf8_first)], narrowed := true }
def ShelfAsksUptoSaid : Prop := shelfAsksUptoRow.holds Tryd.pinned (OpenSpec.upto shelfAsksSpec)

/-- 'consistorylaw09.ShelfJust', WHERE WHAT IT READS IS OF BULK AT MOST 1048576: true; the input reads as it did. -/
def shelfJustUptoRow : OpenClaim := { program := "ytlpakfaoaodaiaadoor", sum := "b63928ad2b813136f7d52ba3d7c5b4a3887201aa520ce945c9aed7d415caa22b", func := "consistory/consistorylaw09.ShelfJust", spec := "shelfJust", inPlace := ["internal/bytealg.CountString", "internal/bytealg.IndexByteString", "internal/bytealg.IndexString", "slices.overlaps[consistory/shelf.Node]"], unfollowed := true, recurses := true, named := ["internal/bytealg.MaxLen", "unicode/utf8.first", "unicode/utf8.acceptRanges"], apart := false, laid := [("unicode/utf8.acceptRanges", laid_unicode_utf8_acceptRanges), ("unicode/utf8.first", laid_unicode_utf8_first)], narrowed := true }
def ShelfJustUptoSaid : Prop := shelfJustUptoRow.holds Tryd.pinned (OpenSpec.upto shelfJustSpec)

/-- 'consistorylaw09.ShelfDrops', WHERE WHAT IT READS IS OF BULK AT MOST 1048576: true; the input reads as it did. -/
def shelfDropsUptoRow : OpenClaim := { program := "ytlpakfaoaodaiaadoor", sum := "b63928ad2b813136f7d52ba3d7c5b4a3887201aa520ce945c9aed7d415caa22b", func := "consistory/consistorylaw09.ShelfDrops", spec := "shelfDrops", inPlace := ["internal/bytealg.CountString", "internal/bytealg.IndexByteString", "internal/bytealg.IndexString", "slices.overlaps[consistory/shelf.Node]"], unfollowed := true, recurses := true, named := ["internal/bytealg.MaxLen", "unicode/utf8.first", "unicode/utf8.acceptRanges"], apart := false, laid := [("unicode/utf8.acceptRanges", laid_unicode_utf8_acceptRanges), ("unicode/utf8.first", laid_unicode_utf8_first)], narrowed := true }
def ShelfDropsUptoSaid : Prop := shelfDropsUptoRow.holds Tryd.pinned (OpenSpec.upto shelfDropsSpec)

/-- 'consistorylaw09.ShelfKids', WHERE WHAT IT READS IS OF BULK AT MOST 1048576: true; the input reads as it did. -/
def shelfKidsUptoRow : OpenClaim := { program := "ytlpakfaoaodaiaadoor", sum := "b63928ad2b813136f7d52ba3d7c5b4a3887201aa520ce945c9aed7d415caa22b", func := "consistory/consistorylaw09.ShelfKids", spec := "shelfKids", inPlace := ["internal/bytealg.CountString", "internal/bytealg.IndexByteString", "internal/bytealg.IndexString", "slices.overlaps[consistory/shelf.Node]"], unfollowed := true, recurses := true, named := ["internal/bytealg.MaxLen", "unicode/utf8.first", "unicode/utf8.acceptRanges"], apart := false, laid := [("unicode/utf8.acceptRanges", laid_unicode_utf8_acceptRanges), ("unicode/utf8.first", laid_unicode_utf8_first)], narrowed := true }
def ShelfKidsUptoSaid : Prop := shelfKidsUptoRow.holds Tryd.pinned (OpenSpec.upto shelfKidsSpec)

end Rows
end Go.Proofs.YtlpakfaoaodaiaaDoor
