/-
  No cell of these rows narrows 'for every input' (looked for: loops, veiled, ifaces, maps, wideKeys, modest, calm, conditions, laid).
  DERIVED. THE GIVEN ROWS OF THIS SEAT. 5 by the template 'for every input the law returns true; each argument reads behind the call as it read before'; 0 by the template 'total and deterministic' (their statements: YtmiomfonglmfjaaTotals.lean).
  GIVEN WITH THE SEED: the statements are not yours to turn. If you find one false, say at which input.
  Laid BY PROGRAM, IN A SANDBOX (cutbox-rows.mjs): the forced cells as the released guide's own fill.sh prints them over the translation effce7db93c9c752… (all of the seat's roots in one cut). By AI agents, Wed Nov 11 2026. No macro, syntax, notation, axiom, sorry.
-/
import Derived.Test.YtmiomfonglmfjaaChecked
import GoSem.Claim
import GoSem.ClaimJoined
import GoSem.ClaimMapViews
import Derived.JoinedTies
import Derived.KernelRfl
namespace Go.Proofs.Ytmiomfonglmfjaa
/- THE CELL 'sum', in the pinned program and in every row, IS THE sha256 OF THE DUMP (.gsa) THAT YtmiomfonglmfjaaProg.lean LOADS. Nothing in Lean hashes anything: it is a label: what it is worth is what the hold of that sum in a sandbox is worth. -/
noncomputable def Try.pinned : Pinned := { name := "ytmiomfonglmfjaa", sum := "effce7db93c9c7520d11f7400a8bcc34dc2286a28bb8065dab91e8e86b68438e", checked := Try.checked }
namespace Rows
def none {H : Type} : Left H := { results := [], args := [] }

/-- 'consistorylaw11.WatchMay': WHATEVER THE INPUT: true; the input reads as it did. -/
def watchMaySpec : ChangeSpec := { name := "watchMay", fn := fun _ => fun
  | [d1, d2, d3] => { results := [.lit (.bool true)], args := [d1, d2, d3] }
  | _ => none }
def watchMayRow : OpenClaim := { program := "ytmiomfonglmfjaa", sum := "effce7db93c9c7520d11f7400a8bcc34dc2286a28bb8065dab91e8e86b68438e", func := "consistory/consistorylaw11.WatchMay", spec := "watchMay", inPlace := ["internal/bytealg.CountString", "internal/bytealg.IndexByteString", "internal/bytealg.IndexString"], unfollowed := true, recurses := true, named := ["internal/bytealg.MaxLen"], apart := false }
def WatchMaySaid : Prop := watchMayRow.holds Try.pinned (OpenSpec.ofChange watchMaySpec)

/-- ITS FALSE NEIGHBOUR: 'it returns false'. Refute it at one input. -/
def watchMayWrong : ChangeSpec := { name := "watchMay", fn := fun _ => fun
  | [d1, d2, d3] => { results := [.lit (.bool false)], args := [d1, d2, d3] }
  | _ => none }
def WatchMayWrongFalsely : Prop := watchMayRow.holds Try.pinned (OpenSpec.ofChange watchMayWrong)

/-- 'consistorylaw11.WatchTurns': WHATEVER THE INPUT: true; the input reads as it did. -/
def watchTurnsSpec : ChangeSpec := { name := "watchTurns", fn := fun _ => fun
  | [d1, d2, d3] => { results := [.lit (.bool true)], args := [d1, d2, d3] }
  | _ => none }
def watchTurnsRow : OpenClaim := { program := "ytmiomfonglmfjaa", sum := "effce7db93c9c7520d11f7400a8bcc34dc2286a28bb8065dab91e8e86b68438e", func := "consistory/consistorylaw11.WatchTurns", spec := "watchTurns", inPlace := ["internal/bytealg.CountString", "internal/bytealg.IndexByteString", "internal/bytealg.IndexString"], unfollowed := true, recurses := true, named := ["internal/bytealg.MaxLen"], apart := false }
def WatchTurnsSaid : Prop := watchTurnsRow.holds Try.pinned (OpenSpec.ofChange watchTurnsSpec)

/-- ITS FALSE NEIGHBOUR: 'it returns false'. Refute it at one input. -/
def watchTurnsWrong : ChangeSpec := { name := "watchTurns", fn := fun _ => fun
  | [d1, d2, d3] => { results := [.lit (.bool false)], args := [d1, d2, d3] }
  | _ => none }
def WatchTurnsWrongFalsely : Prop := watchTurnsRow.holds Try.pinned (OpenSpec.ofChange watchTurnsWrong)

/-- 'consistorylaw11.WatchOnce': WHATEVER THE INPUT: true; the input reads as it did. -/
def watchOnceSpec : ChangeSpec := { name := "watchOnce", fn := fun _ => fun
  | [d1, d2] => { results := [.lit (.bool true)], args := [d1, d2] }
  | _ => none }
def watchOnceRow : OpenClaim := { program := "ytmiomfonglmfjaa", sum := "effce7db93c9c7520d11f7400a8bcc34dc2286a28bb8065dab91e8e86b68438e", func := "consistory/consistorylaw11.WatchOnce", spec := "watchOnce", inPlace := ["internal/bytealg.CountString", "internal/bytealg.IndexByteString", "internal/bytealg.IndexString"], unfollowed := true, recurses := true, named := ["internal/bytealg.MaxLen"], apart := false }
def WatchOnceSaid : Prop := watchOnceRow.holds Try.pinned (OpenSpec.ofChange watchOnceSpec)

/-- ITS FALSE NEIGHBOUR: 'it returns false'. Refute it at one input. -/
def watchOnceWrong : ChangeSpec := { name := "watchOnce", fn := fun _ => fun
  | [d1, d2] => { results := [.lit (.bool false)], args := [d1, d2] }
  | _ => none }
def WatchOnceWrongFalsely : Prop := watchOnceRow.holds Try.pinned (OpenSpec.ofChange watchOnceWrong)

/-- 'consistorylaw11.WatchPieces': WHATEVER THE INPUT: true; the input reads as it did. -/
def watchPiecesSpec : ChangeSpec := { name := "watchPieces", fn := fun _ => fun
  | [d1, d2, d3] => { results := [.lit (.bool true)], args := [d1, d2, d3] }
  | _ => none }
def watchPiecesRow : OpenClaim := { program := "ytmiomfonglmfjaa", sum := "effce7db93c9c7520d11f7400a8bcc34dc2286a28bb8065dab91e8e86b68438e", func := "consistory/consistorylaw11.WatchPieces", spec := "watchPieces", inPlace := ["internal/bytealg.CountString", "internal/bytealg.IndexByteString", "internal/bytealg.IndexString"], unfollowed := true, recurses := true, named := ["internal/bytealg.MaxLen"], apart := false }
def WatchPiecesSaid : Prop := watchPiecesRow.holds Try.pinned (OpenSpec.ofChange watchPiecesSpec)

/-- ITS FALSE NEIGHBOUR: 'it returns false'. Refute it at one input. -/
def watchPiecesWrong : ChangeSpec := { name := "watchPieces", fn := fun _ => fun
  | [d1, d2, d3] => { results := [.lit (.bool false)], args := [d1, d2, d3] }
  | _ => none }
def WatchPiecesWrongFalsely : Prop := watchPiecesRow.holds Try.pinned (OpenSpec.ofChange watchPiecesWrong)

/-- 'consistorylaw11.WatchCancels': WHATEVER THE INPUT: true; the input reads as it did. -/
def watchCancelsSpec : ChangeSpec := { name := "watchCancels", fn := fun _ => fun
  | [d1, d2, d3] => { results := [.lit (.bool true)], args := [d1, d2, d3] }
  | _ => none }
def watchCancelsRow : OpenClaim := { program := "ytmiomfonglmfjaa", sum := "effce7db93c9c7520d11f7400a8bcc34dc2286a28bb8065dab91e8e86b68438e", func := "consistory/consistorylaw11.WatchCancels", spec := "watchCancels", inPlace := ["internal/bytealg.CountString", "internal/bytealg.IndexByteString", "internal/bytealg.IndexString"], unfollowed := true, recurses := true, named := ["internal/bytealg.MaxLen"], apart := false }
def WatchCancelsSaid : Prop := watchCancelsRow.holds Try.pinned (OpenSpec.ofChange watchCancelsSpec)

/-- ITS FALSE NEIGHBOUR: 'it returns false'. Refute it at one input. -/
def watchCancelsWrong : ChangeSpec := { name := "watchCancels", fn := fun _ => fun
  | [d1, d2, d3] => { results := [.lit (.bool false)], args := [d1, d2, d3] }
  | _ => none }
def WatchCancelsWrongFalsely : Prop := watchCancelsRow.holds Try.pinned (OpenSpec.ofChange watchCancelsWrong)

/- THE SECOND FORM. 'bulk': how many values and letters a reading holds, each counted each time it is reached (what is shared counts as often as it is met; a slice's spare places count too). A statement '..UptoSaid' is the law's where the arguments, and the package variables that the reading takes, are together of bulk at most 1048576: NARROWER than '..Said'. Prove '..Said' where nothing that the law and all that it calls make is longer than what came in: it says more and counts as full. Else prove '..UptoSaid'. A law counts once. -/
mutual
def uptoBulk {H : Type} : DataW H → Nat
  | .lit (.string bytes) => bytes.length + 1
  | .lit _ => 1
  | .nil => 1
  | .ptr d => uptoBulk d + 1
  | .slice elems spare => uptoBulkAll elems + uptoBulkAll spare + 1
  | .agg parts => uptoBulkAll parts + 1
  | .iface _ d => uptoBulk d + 1
  | .map entries => uptoBulkEntries entries + 1
  | .held _ => 1
def uptoBulkAll {H : Type} : List (DataW H) → Nat
  | [] => 0
  | d :: r => uptoBulk d + uptoBulkAll r
def uptoBulkEntries {H : Type} : List (Lit × DataW H) → Nat
  | [] => 0
  | x :: r => uptoBulkEntry x + uptoBulkEntries r
def uptoBulkEntry {H : Type} : Lit × DataW H → Nat
  | (.string bytes, d) => bytes.length + uptoBulk d + 1
  | (_, d) => uptoBulk d + 1
 end
def uptoSmall : (H : Type) → List (DataW H) → Bool := fun _ ds => decide (uptoBulkAll ds ≤ 1048576)
def OpenSpec.upto (s : _root_.Go.ChangeSpec) : _root_.Go.OpenSpec := { _root_.Go.OpenSpec.ofChange s with cond := some uptoSmall }

/-- 'consistorylaw11.WatchMay', WHERE WHAT IT READS IS OF BULK AT MOST 1048576: true; the input reads as it did. -/
def watchMayUptoRow : OpenClaim := { program := "ytmiomfonglmfjaa", sum := "effce7db93c9c7520d11f7400a8bcc34dc2286a28bb8065dab91e8e86b68438e", func := "consistory/consistorylaw11.WatchMay", spec := "watchMay", inPlace := ["internal/bytealg.CountString", "internal/bytealg.IndexByteString", "internal/bytealg.IndexString"], unfollowed := true, recurses := true, named := ["internal/bytealg.MaxLen"], apart := false, narrowed := true }
def WatchMayUptoSaid : Prop := watchMayUptoRow.holds Try.pinned (OpenSpec.upto watchMaySpec)

/-- 'consistorylaw11.WatchTurns', WHERE WHAT IT READS IS OF BULK AT MOST 1048576: true; the input reads as it did. -/
def watchTurnsUptoRow : OpenClaim := { program := "ytmiomfonglmfjaa", sum := "effce7db93c9c7520d11f7400a8bcc34dc2286a28bb8065dab91e8e86b68438e", func := "consistory/consistorylaw11.WatchTurns", spec := "watchTurns", inPlace := ["internal/bytealg.CountString", "internal/bytealg.IndexByteString", "internal/bytealg.IndexString"], unfollowed := true, recurses := true, named := ["internal/bytealg.MaxLen"], apart := false, narrowed := true }
def WatchTurnsUptoSaid : Prop := watchTurnsUptoRow.holds Try.pinned (OpenSpec.upto watchTurnsSpec)

/-- 'consistorylaw11.WatchOnce', WHERE WHAT IT READS IS OF BULK AT MOST 1048576: true; the input reads as it did. -/
def watchOnceUptoRow : OpenClaim := { program := "ytmiomfonglmfjaa", sum := "effce7db93c9c7520d11f7400a8bcc34dc2286a28bb8065dab91e8e86b68438e", func := "consistory/consistorylaw11.WatchOnce", spec := "watchOnce", inPlace := ["internal/bytealg.CountString", "internal/bytealg.IndexByteString", "internal/bytealg.IndexString"], unfollowed := true, recurses := true, named := ["internal/bytealg.MaxLen"], apart := false, narrowed := true }
def WatchOnceUptoSaid : Prop := watchOnceUptoRow.holds Try.pinned (OpenSpec.upto watchOnceSpec)

/-- 'consistorylaw11.WatchPieces', WHERE WHAT IT READS IS OF BULK AT MOST 1048576: true; the input reads as it did. -/
def watchPiecesUptoRow : OpenClaim := { program := "ytmiomfonglmfjaa", sum := "effce7db93c9c7520d11f7400a8bcc34dc2286a28bb8065dab91e8e86b68438e", func := "consistory/consistorylaw11.WatchPieces", spec := "watchPieces", inPlace := ["internal/bytealg.CountString", "internal/bytealg.IndexByteString", "internal/bytealg.IndexString"], unfollowed := true, recurses := true, named := ["internal/bytealg.MaxLen"], apart := false, narrowed := true }
def WatchPiecesUptoSaid : Prop := watchPiecesUptoRow.holds Try.pinned (OpenSpec.upto watchPiecesSpec)

/-- 'consistorylaw11.WatchCancels', WHERE WHAT IT READS IS OF BULK AT MOST 1048576: true; the input reads as it did. -/
def watchCancelsUptoRow : OpenClaim := { program := "ytmiomfonglmfjaa", sum := "effce7db93c9c7520d11f7400a8bcc34dc2286a28bb8065dab91e8e86b68438e", func := "consistory/consistorylaw11.WatchCancels", spec := "watchCancels", inPlace := ["internal/bytealg.CountString", "internal/bytealg.IndexByteString", "internal/bytealg.IndexString"], unfollowed := true, recurses := true, named := ["internal/bytealg.MaxLen"], apart := false, narrowed := true }
def WatchCancelsUptoSaid : Prop := watchCancelsUptoRow.holds Try.pinned (OpenSpec.upto watchCancelsSpec)

end Rows
end Go.Proofs.Ytmiomfonglmfjaa
