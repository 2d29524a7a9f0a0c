/-
  DERIVED. GIVEN WITH THE SEED: THE CARDS: each row of YtlpakfaoaodaiaaDoorRows.lean that lists a variable, with what it lists TIED to the program's text (the seventh form; the later family's looks); each row that meets fmt, with fmt's text TOLD by the authors' own Lean function (tested against real Go, not proved from fmt's source: count such statements apart). THE CARD IS WHAT COUNTS. Prove the row's statement (the work); the ties are given (YtlpakfaoaodaiaaDoorTie.lean); close each card by the builder's one call (the guide's Derived/Test/ToyasCard.lean, 'card_holds'). Laid BY PROGRAM, IN A SANDBOX (cutbox-door.mjs). By AI agents, Wed Nov 11 2026. No macro, syntax, notation, axiom, sorry.
-/
import Derived.Test.YtlpakfaoaodaiaaDoorRows
import GoSem.ClaimSeven
namespace Go.Proofs.YtlpakfaoaodaiaaDoor
namespace Rows

/-- THE TIED CARD OF 'consistorylaw09.ShelfMay'. -/
def shelfMayCard : Claim7 := { stood := { row := shelfMayRow, standIns := [], harness := (true, "0693c4c1f8130f8fe77b99501301f9fba57025025cba6f0a16bb1487d0c4ae07"), looks := false }, kinds := [], alts := [], laidByText := true, laidKinds := [.data, .pinned], laidTests := true, laidLooks := .later }
def ShelfMayCardSaid : Prop := Claim7.holds Tryd.pinned (.plain (OpenSpec.ofChange shelfMaySpec)) shelfMayCard

/-- THE TIED CARD OF 'consistorylaw09.ShelfChanges'. -/
def shelfChangesCard : Claim7 := { stood := { row := shelfChangesRow, standIns := [], harness := (true, "0693c4c1f8130f8fe77b99501301f9fba57025025cba6f0a16bb1487d0c4ae07"), looks := false }, kinds := [], alts := [], laidByText := true, laidKinds := [.data, .pinned], laidTests := true, laidLooks := .later }
def ShelfChangesCardSaid : Prop := Claim7.holds Tryd.pinned (.plain (OpenSpec.ofChange shelfChangesSpec)) shelfChangesCard

/-- THE TIED CARD OF 'consistorylaw09.ShelfAsks'. -/
def shelfAsksCard : Claim7 := { stood := { row := shelfAsksRow, standIns := [], harness := (true, "0693c4c1f8130f8fe77b99501301f9fba57025025cba6f0a16bb1487d0c4ae07"), looks := false }, kinds := [], alts := [], laidByText := true, laidKinds := [.data, .pinned], laidTests := true, laidLooks := .later }
def ShelfAsksCardSaid : Prop := Claim7.holds Tryd.pinned (.plain (OpenSpec.ofChange shelfAsksSpec)) shelfAsksCard

/-- THE TIED CARD OF 'consistorylaw09.ShelfJust'. -/
def shelfJustCard : Claim7 := { stood := { row := shelfJustRow, standIns := [], harness := (true, "0693c4c1f8130f8fe77b99501301f9fba57025025cba6f0a16bb1487d0c4ae07"), looks := false }, kinds := [], alts := [], laidByText := true, laidKinds := [.data, .pinned], laidTests := true, laidLooks := .later }
def ShelfJustCardSaid : Prop := Claim7.holds Tryd.pinned (.plain (OpenSpec.ofChange shelfJustSpec)) shelfJustCard

/-- THE TIED CARD OF 'consistorylaw09.ShelfDrops'. -/
def shelfDropsCard : Claim7 := { stood := { row := shelfDropsRow, standIns := [], harness := (true, "0693c4c1f8130f8fe77b99501301f9fba57025025cba6f0a16bb1487d0c4ae07"), looks := false }, kinds := [], alts := [], laidByText := true, laidKinds := [.data, .pinned], laidTests := true, laidLooks := .later }
def ShelfDropsCardSaid : Prop := Claim7.holds Tryd.pinned (.plain (OpenSpec.ofChange shelfDropsSpec)) shelfDropsCard

/-- THE TIED CARD OF 'consistorylaw09.ShelfKids'. -/
def shelfKidsCard : Claim7 := { stood := { row := shelfKidsRow, standIns := [], harness := (true, "0693c4c1f8130f8fe77b99501301f9fba57025025cba6f0a16bb1487d0c4ae07"), looks := false }, kinds := [], alts := [], laidByText := true, laidKinds := [.data, .pinned], laidTests := true, laidLooks := .later }
def ShelfKidsCardSaid : Prop := Claim7.holds Tryd.pinned (.plain (OpenSpec.ofChange shelfKidsSpec)) shelfKidsCard

/-- THE SECOND FORM's CARD OF 'consistorylaw09.ShelfMay'. -/
def shelfMayUptoCard : Claim7 := { stood := { row := shelfMayUptoRow, standIns := [], harness := (true, "0693c4c1f8130f8fe77b99501301f9fba57025025cba6f0a16bb1487d0c4ae07"), looks := false }, kinds := [], alts := [], laidByText := true, laidKinds := [.data, .pinned], laidTests := true, laidLooks := .later }
def ShelfMayUptoCardSaid : Prop := Claim7.holds Tryd.pinned (.plain (OpenSpec.upto shelfMaySpec)) shelfMayUptoCard

/-- THE SECOND FORM's CARD OF 'consistorylaw09.ShelfChanges'. -/
def shelfChangesUptoCard : Claim7 := { stood := { row := shelfChangesUptoRow, standIns := [], harness := (true, "0693c4c1f8130f8fe77b99501301f9fba57025025cba6f0a16bb1487d0c4ae07"), looks := false }, kinds := [], alts := [], laidByText := true, laidKinds := [.data, .pinned], laidTests := true, laidLooks := .later }
def ShelfChangesUptoCardSaid : Prop := Claim7.holds Tryd.pinned (.plain (OpenSpec.upto shelfChangesSpec)) shelfChangesUptoCard

/-- THE SECOND FORM's CARD OF 'consistorylaw09.ShelfAsks'. -/
def shelfAsksUptoCard : Claim7 := { stood := { row := shelfAsksUptoRow, standIns := [], harness := (true, "0693c4c1f8130f8fe77b99501301f9fba57025025cba6f0a16bb1487d0c4ae07"), looks := false }, kinds := [], alts := [], laidByText := true, laidKinds := [.data, .pinned], laidTests := true, laidLooks := .later }
def ShelfAsksUptoCardSaid : Prop := Claim7.holds Tryd.pinned (.plain (OpenSpec.upto shelfAsksSpec)) shelfAsksUptoCard

/-- THE SECOND FORM's CARD OF 'consistorylaw09.ShelfJust'. -/
def shelfJustUptoCard : Claim7 := { stood := { row := shelfJustUptoRow, standIns := [], harness := (true, "0693c4c1f8130f8fe77b99501301f9fba57025025cba6f0a16bb1487d0c4ae07"), looks := false }, kinds := [], alts := [], laidByText := true, laidKinds := [.data, .pinned], laidTests := true, laidLooks := .later }
def ShelfJustUptoCardSaid : Prop := Claim7.holds Tryd.pinned (.plain (OpenSpec.upto shelfJustSpec)) shelfJustUptoCard

/-- THE SECOND FORM's CARD OF 'consistorylaw09.ShelfDrops'. -/
def shelfDropsUptoCard : Claim7 := { stood := { row := shelfDropsUptoRow, standIns := [], harness := (true, "0693c4c1f8130f8fe77b99501301f9fba57025025cba6f0a16bb1487d0c4ae07"), looks := false }, kinds := [], alts := [], laidByText := true, laidKinds := [.data, .pinned], laidTests := true, laidLooks := .later }
def ShelfDropsUptoCardSaid : Prop := Claim7.holds Tryd.pinned (.plain (OpenSpec.upto shelfDropsSpec)) shelfDropsUptoCard

/-- THE SECOND FORM's CARD OF 'consistorylaw09.ShelfKids'. -/
def shelfKidsUptoCard : Claim7 := { stood := { row := shelfKidsUptoRow, standIns := [], harness := (true, "0693c4c1f8130f8fe77b99501301f9fba57025025cba6f0a16bb1487d0c4ae07"), looks := false }, kinds := [], alts := [], laidByText := true, laidKinds := [.data, .pinned], laidTests := true, laidLooks := .later }
def ShelfKidsUptoCardSaid : Prop := Claim7.holds Tryd.pinned (.plain (OpenSpec.upto shelfKidsSpec)) shelfKidsUptoCard
end Rows
end Go.Proofs.YtlpakfaoaodaiaaDoor
