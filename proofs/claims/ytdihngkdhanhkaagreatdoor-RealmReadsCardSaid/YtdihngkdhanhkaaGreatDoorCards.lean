/-
  DERIVED. GIVEN WITH THE SEED: THE CARDS: each row of YtdihngkdhanhkaaGreatDoorRows.lean that lists a variable, with what it lists TIED to the program's text (the seventh form; the later family's looks); each row that meets fmt, with fmt's text TOLD by the authors' own Lean function (tested against real Go, not proved from fmt's source: count such statements apart). THE CARD IS WHAT COUNTS. Prove the row's statement (the work); the ties are given (YtdihngkdhanhkaaGreatDoorTie.lean); close each card by the builder's one call (the guide's Derived/Test/ToyasCard.lean, 'card_holds'). Laid BY PROGRAM, IN A SANDBOX (cutbox-door.mjs). By AI agents, Wed Nov 11 2026. No macro, syntax, notation, axiom, sorry.
-/
import Derived.Test.YtdihngkdhanhkaaGreatDoorRows
import GoSem.ClaimSeven
namespace Go.Proofs.YtdihngkdhanhkaaGreatDoor
namespace Rows

/-- THE TIED CARD OF 'consistorylaw13.RealmApplies'. -/
def realmAppliesCard : Claim7 := { stood := { row := realmAppliesRow, standIns := [], harness := (true, "35209066badaa3e0c89ccfdb17115b2bd345dab32d56f942c8350071bf318d7f"), looks := false }, kinds := [], alts := [], laidByText := true, laidKinds := [.data, .pinned], laidTests := true, laidLooks := .later }
def RealmAppliesCardSaid : Prop := Claim7.holds Tryz.pinned (.plain (OpenSpec.ofChange realmAppliesSpec)) realmAppliesCard

/-- THE TIED CARD OF 'consistorylaw13.RealmFolds'. -/
def realmFoldsCard : Claim7 := { stood := { row := realmFoldsRow, standIns := [], harness := (true, "35209066badaa3e0c89ccfdb17115b2bd345dab32d56f942c8350071bf318d7f"), looks := false }, kinds := [], alts := [], laidByText := true, laidKinds := [.data, .pinned], laidTests := true, laidLooks := .later }
def RealmFoldsCardSaid : Prop := Claim7.holds Tryz.pinned (.plain (OpenSpec.ofChange realmFoldsSpec)) realmFoldsCard

/-- THE TIED CARD OF 'consistorylaw13.RealmOnce'. -/
def realmOnceCard : Claim7 := { stood := { row := realmOnceRow, standIns := [], harness := (true, "35209066badaa3e0c89ccfdb17115b2bd345dab32d56f942c8350071bf318d7f"), looks := false }, kinds := [], alts := [], laidByText := true, laidKinds := [.data, .pinned], laidTests := true, laidLooks := .later }
def RealmOnceCardSaid : Prop := Claim7.holds Tryz.pinned (.plain (OpenSpec.ofChange realmOnceSpec)) realmOnceCard

/-- THE TIED CARD OF 'consistorylaw13.RealmReads'. -/
def realmReadsCard : Claim7 := { stood := { row := realmReadsRow, standIns := [], harness := (true, "35209066badaa3e0c89ccfdb17115b2bd345dab32d56f942c8350071bf318d7f"), looks := false }, kinds := [], alts := [], laidByText := true, laidKinds := [.data, .pinned], laidTests := true, laidLooks := .later }
def RealmReadsCardSaid : Prop := Claim7.holds Tryz.pinned (.plain (OpenSpec.ofChange realmReadsSpec)) realmReadsCard

/-- THE TIED CARD OF 'consistorylaw13.RealmOwners'. -/
def realmOwnersCard : Claim7 := { stood := { row := realmOwnersRow, standIns := [], harness := (true, "35209066badaa3e0c89ccfdb17115b2bd345dab32d56f942c8350071bf318d7f"), looks := false }, kinds := [], alts := [], laidByText := true, laidKinds := [.data, .pinned], laidTests := true, laidLooks := .later }
def RealmOwnersCardSaid : Prop := Claim7.holds Tryz.pinned (.plain (OpenSpec.ofChange realmOwnersSpec)) realmOwnersCard

/-- THE TIED CARD OF 'consistorylaw13.RealmEvents'. -/
def realmEventsCard : Claim7 := { stood := { row := realmEventsRow, standIns := [], harness := (true, "35209066badaa3e0c89ccfdb17115b2bd345dab32d56f942c8350071bf318d7f"), looks := false }, kinds := [], alts := [], laidByText := true, laidKinds := [.data, .pinned], laidTests := true, laidLooks := .later }
def RealmEventsCardSaid : Prop := Claim7.holds Tryz.pinned (.plain (OpenSpec.ofChange realmEventsSpec)) realmEventsCard

/-- THE SECOND FORM's CARD OF 'consistorylaw13.RealmApplies'. -/
def realmAppliesUptoCard : Claim7 := { stood := { row := realmAppliesUptoRow, standIns := [], harness := (true, "35209066badaa3e0c89ccfdb17115b2bd345dab32d56f942c8350071bf318d7f"), looks := false }, kinds := [], alts := [], laidByText := true, laidKinds := [.data, .pinned], laidTests := true, laidLooks := .later }
def RealmAppliesUptoCardSaid : Prop := Claim7.holds Tryz.pinned (.plain (OpenSpec.upto realmAppliesSpec)) realmAppliesUptoCard

/-- THE SECOND FORM's CARD OF 'consistorylaw13.RealmFolds'. -/
def realmFoldsUptoCard : Claim7 := { stood := { row := realmFoldsUptoRow, standIns := [], harness := (true, "35209066badaa3e0c89ccfdb17115b2bd345dab32d56f942c8350071bf318d7f"), looks := false }, kinds := [], alts := [], laidByText := true, laidKinds := [.data, .pinned], laidTests := true, laidLooks := .later }
def RealmFoldsUptoCardSaid : Prop := Claim7.holds Tryz.pinned (.plain (OpenSpec.upto realmFoldsSpec)) realmFoldsUptoCard

/-- THE SECOND FORM's CARD OF 'consistorylaw13.RealmOnce'. -/
def realmOnceUptoCard : Claim7 := { stood := { row := realmOnceUptoRow, standIns := [], harness := (true, "35209066badaa3e0c89ccfdb17115b2bd345dab32d56f942c8350071bf318d7f"), looks := false }, kinds := [], alts := [], laidByText := true, laidKinds := [.data, .pinned], laidTests := true, laidLooks := .later }
def RealmOnceUptoCardSaid : Prop := Claim7.holds Tryz.pinned (.plain (OpenSpec.upto realmOnceSpec)) realmOnceUptoCard

/-- THE SECOND FORM's CARD OF 'consistorylaw13.RealmReads'. -/
def realmReadsUptoCard : Claim7 := { stood := { row := realmReadsUptoRow, standIns := [], harness := (true, "35209066badaa3e0c89ccfdb17115b2bd345dab32d56f942c8350071bf318d7f"), looks := false }, kinds := [], alts := [], laidByText := true, laidKinds := [.data, .pinned], laidTests := true, laidLooks := .later }
def RealmReadsUptoCardSaid : Prop := Claim7.holds Tryz.pinned (.plain (OpenSpec.upto realmReadsSpec)) realmReadsUptoCard

/-- THE SECOND FORM's CARD OF 'consistorylaw13.RealmOwners'. -/
def realmOwnersUptoCard : Claim7 := { stood := { row := realmOwnersUptoRow, standIns := [], harness := (true, "35209066badaa3e0c89ccfdb17115b2bd345dab32d56f942c8350071bf318d7f"), looks := false }, kinds := [], alts := [], laidByText := true, laidKinds := [.data, .pinned], laidTests := true, laidLooks := .later }
def RealmOwnersUptoCardSaid : Prop := Claim7.holds Tryz.pinned (.plain (OpenSpec.upto realmOwnersSpec)) realmOwnersUptoCard

/-- THE SECOND FORM's CARD OF 'consistorylaw13.RealmEvents'. -/
def realmEventsUptoCard : Claim7 := { stood := { row := realmEventsUptoRow, standIns := [], harness := (true, "35209066badaa3e0c89ccfdb17115b2bd345dab32d56f942c8350071bf318d7f"), looks := false }, kinds := [], alts := [], laidByText := true, laidKinds := [.data, .pinned], laidTests := true, laidLooks := .later }
def RealmEventsUptoCardSaid : Prop := Claim7.holds Tryz.pinned (.plain (OpenSpec.upto realmEventsSpec)) realmEventsUptoCard
end Rows
end Go.Proofs.YtdihngkdhanhkaaGreatDoor
