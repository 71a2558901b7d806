/-
  DERIVED. GIVEN WITH THE SEED: THE CARDS: each row of YtfbakobmlbjncaaGreatDoorRows.lean that lists a variable, with what it lists TIED to the program's text (the seventh form; the later family's looks); each row that meets fmt, with fmt's text TOLD by the authors' own Lean function (tested against real Go, not proved from fmt's source: count such statements apart). THE CARD IS WHAT COUNTS. Prove the row's statement (the work); the ties are given (YtfbakobmlbjncaaGreatDoorTie.lean); close each card by the builder's one call (the guide's Derived/Test/ToyasCard.lean, 'card_holds'). Laid BY PROGRAM, IN A SANDBOX (cutbox-door.mjs). By AI agents, Wed Nov 11 2026. No macro, syntax, notation, axiom, sorry.
-/
import Derived.Test.YtfbakobmlbjncaaGreatDoorRows
import GoSem.ClaimSeven
namespace Go.Proofs.YtfbakobmlbjncaaGreatDoor
namespace Rows

/-- THE TIED CARD OF 'brackenlaw.DeltaDiffs'. -/
def deltaDiffsCard : Claim7 := { stood := { row := deltaDiffsRow, standIns := [], harness := (true, "e541f4eec14a5ef0ad5da8cf61768268597994727da7e290accd644d97b65d92"), looks := false }, kinds := [], alts := [], laidByText := true, laidKinds := [.data, .pinned], laidTests := true, laidLooks := .later }
def DeltaDiffsCardSaid : Prop := Claim7.holds Tryz.pinned (.plain (OpenSpec.ofChange deltaDiffsSpec)) deltaDiffsCard

/-- THE TIED CARD OF 'brackenlaw.DeltaApplies'. -/
def deltaAppliesCard : Claim7 := { stood := { row := deltaAppliesRow, standIns := [], harness := (true, "e541f4eec14a5ef0ad5da8cf61768268597994727da7e290accd644d97b65d92"), looks := false }, kinds := [], alts := [], laidByText := true, laidKinds := [.data, .pinned], laidTests := true, laidLooks := .later }
def DeltaAppliesCardSaid : Prop := Claim7.holds Tryz.pinned (.plain (OpenSpec.ofChange deltaAppliesSpec)) deltaAppliesCard

/-- THE TIED CARD OF 'brackenkeep.DeltaBack'. -/
def deltaBackCard : Claim7 := { stood := { row := deltaBackRow, standIns := [], harness := (true, "e541f4eec14a5ef0ad5da8cf61768268597994727da7e290accd644d97b65d92"), looks := false }, kinds := [], alts := [], laidByText := true, laidKinds := [.data, .pinned], laidTests := true, laidLooks := .later }
def DeltaBackCardSaid : Prop := Claim7.holds Tryz.pinned (.plain (OpenSpec.ofChange deltaBackSpec)) deltaBackCard

/-- THE TIED CARD OF 'brackenkeep.DeltaLeast'. -/
def deltaLeastCard : Claim7 := { stood := { row := deltaLeastRow, standIns := [], harness := (true, "e541f4eec14a5ef0ad5da8cf61768268597994727da7e290accd644d97b65d92"), looks := false }, kinds := [], alts := [], laidByText := true, laidKinds := [.data, .pinned], laidTests := true, laidLooks := .later }
def DeltaLeastCardSaid : Prop := Claim7.holds Tryz.pinned (.plain (OpenSpec.ofChange deltaLeastSpec)) deltaLeastCard

/-- THE TIED CARD OF 'brackenkeep.DeltaNone'. -/
def deltaNoneCard : Claim7 := { stood := { row := deltaNoneRow, standIns := [], harness := (true, "e541f4eec14a5ef0ad5da8cf61768268597994727da7e290accd644d97b65d92"), looks := false }, kinds := [], alts := [], laidByText := true, laidKinds := [.data, .pinned], laidTests := true, laidLooks := .later }
def DeltaNoneCardSaid : Prop := Claim7.holds Tryz.pinned (.plain (OpenSpec.ofChange deltaNoneSpec)) deltaNoneCard

/-- THE TIED CARD OF 'brackenkeep.DeltaOld'. -/
def deltaOldCard : Claim7 := { stood := { row := deltaOldRow, standIns := [], harness := (true, "e541f4eec14a5ef0ad5da8cf61768268597994727da7e290accd644d97b65d92"), looks := false }, kinds := [], alts := [], laidByText := true, laidKinds := [.data, .pinned], laidTests := true, laidLooks := .later }
def DeltaOldCardSaid : Prop := Claim7.holds Tryz.pinned (.plain (OpenSpec.ofChange deltaOldSpec)) deltaOldCard

/-- THE TIED CARD OF 'brackenkeep.DeltaThrough'. -/
def deltaThroughCard : Claim7 := { stood := { row := deltaThroughRow, standIns := [], harness := (true, "e541f4eec14a5ef0ad5da8cf61768268597994727da7e290accd644d97b65d92"), looks := false }, kinds := [], alts := [], laidByText := true, laidKinds := [.data, .pinned], laidTests := true, laidLooks := .later }
def DeltaThroughCardSaid : Prop := Claim7.holds Tryz.pinned (.plain (OpenSpec.ofChange deltaThroughSpec)) deltaThroughCard

/-- THE TIED CARD OF 'brackenkeep.DeltaWire'. -/
def deltaWireCard : Claim7 := { stood := { row := deltaWireRow, standIns := [], harness := (true, "e541f4eec14a5ef0ad5da8cf61768268597994727da7e290accd644d97b65d92"), looks := false }, kinds := [], alts := [], laidByText := true, laidKinds := [.data, .pinned], laidTests := true, laidLooks := .later }
def DeltaWireCardSaid : Prop := Claim7.holds Tryz.pinned (.plain (OpenSpec.ofChange deltaWireSpec)) deltaWireCard

/-- THE TIED CARD OF 'brackenkeep.DeltaCut'. -/
def deltaCutCard : Claim7 := { stood := { row := deltaCutRow, standIns := [], harness := (true, "e541f4eec14a5ef0ad5da8cf61768268597994727da7e290accd644d97b65d92"), looks := false }, kinds := [], alts := [], laidByText := true, laidKinds := [.data, .pinned], laidTests := true, laidLooks := .later }
def DeltaCutCardSaid : Prop := Claim7.holds Tryz.pinned (.plain (OpenSpec.ofChange deltaCutSpec)) deltaCutCard

/-- THE SECOND FORM's CARD OF 'brackenlaw.DeltaDiffs'. -/
def deltaDiffsUptoCard : Claim7 := { stood := { row := deltaDiffsUptoRow, standIns := [], harness := (true, "e541f4eec14a5ef0ad5da8cf61768268597994727da7e290accd644d97b65d92"), looks := false }, kinds := [], alts := [], laidByText := true, laidKinds := [.data, .pinned], laidTests := true, laidLooks := .later }
def DeltaDiffsUptoCardSaid : Prop := Claim7.holds Tryz.pinned (.plain (OpenSpec.upto deltaDiffsSpec)) deltaDiffsUptoCard

/-- THE SECOND FORM's CARD OF 'brackenlaw.DeltaApplies'. -/
def deltaAppliesUptoCard : Claim7 := { stood := { row := deltaAppliesUptoRow, standIns := [], harness := (true, "e541f4eec14a5ef0ad5da8cf61768268597994727da7e290accd644d97b65d92"), looks := false }, kinds := [], alts := [], laidByText := true, laidKinds := [.data, .pinned], laidTests := true, laidLooks := .later }
def DeltaAppliesUptoCardSaid : Prop := Claim7.holds Tryz.pinned (.plain (OpenSpec.upto deltaAppliesSpec)) deltaAppliesUptoCard

/-- THE SECOND FORM's CARD OF 'brackenkeep.DeltaBack'. -/
def deltaBackUptoCard : Claim7 := { stood := { row := deltaBackUptoRow, standIns := [], harness := (true, "e541f4eec14a5ef0ad5da8cf61768268597994727da7e290accd644d97b65d92"), looks := false }, kinds := [], alts := [], laidByText := true, laidKinds := [.data, .pinned], laidTests := true, laidLooks := .later }
def DeltaBackUptoCardSaid : Prop := Claim7.holds Tryz.pinned (.plain (OpenSpec.upto deltaBackSpec)) deltaBackUptoCard

/-- THE SECOND FORM's CARD OF 'brackenkeep.DeltaLeast'. -/
def deltaLeastUptoCard : Claim7 := { stood := { row := deltaLeastUptoRow, standIns := [], harness := (true, "e541f4eec14a5ef0ad5da8cf61768268597994727da7e290accd644d97b65d92"), looks := false }, kinds := [], alts := [], laidByText := true, laidKinds := [.data, .pinned], laidTests := true, laidLooks := .later }
def DeltaLeastUptoCardSaid : Prop := Claim7.holds Tryz.pinned (.plain (OpenSpec.upto deltaLeastSpec)) deltaLeastUptoCard

/-- THE SECOND FORM's CARD OF 'brackenkeep.DeltaNone'. -/
def deltaNoneUptoCard : Claim7 := { stood := { row := deltaNoneUptoRow, standIns := [], harness := (true, "e541f4eec14a5ef0ad5da8cf61768268597994727da7e290accd644d97b65d92"), looks := false }, kinds := [], alts := [], laidByText := true, laidKinds := [.data, .pinned], laidTests := true, laidLooks := .later }
def DeltaNoneUptoCardSaid : Prop := Claim7.holds Tryz.pinned (.plain (OpenSpec.upto deltaNoneSpec)) deltaNoneUptoCard

/-- THE SECOND FORM's CARD OF 'brackenkeep.DeltaOld'. -/
def deltaOldUptoCard : Claim7 := { stood := { row := deltaOldUptoRow, standIns := [], harness := (true, "e541f4eec14a5ef0ad5da8cf61768268597994727da7e290accd644d97b65d92"), looks := false }, kinds := [], alts := [], laidByText := true, laidKinds := [.data, .pinned], laidTests := true, laidLooks := .later }
def DeltaOldUptoCardSaid : Prop := Claim7.holds Tryz.pinned (.plain (OpenSpec.upto deltaOldSpec)) deltaOldUptoCard

/-- THE SECOND FORM's CARD OF 'brackenkeep.DeltaThrough'. -/
def deltaThroughUptoCard : Claim7 := { stood := { row := deltaThroughUptoRow, standIns := [], harness := (true, "e541f4eec14a5ef0ad5da8cf61768268597994727da7e290accd644d97b65d92"), looks := false }, kinds := [], alts := [], laidByText := true, laidKinds := [.data, .pinned], laidTests := true, laidLooks := .later }
def DeltaThroughUptoCardSaid : Prop := Claim7.holds Tryz.pinned (.plain (OpenSpec.upto deltaThroughSpec)) deltaThroughUptoCard

/-- THE SECOND FORM's CARD OF 'brackenkeep.DeltaWire'. -/
def deltaWireUptoCard : Claim7 := { stood := { row := deltaWireUptoRow, standIns := [], harness := (true, "e541f4eec14a5ef0ad5da8cf61768268597994727da7e290accd644d97b65d92"), looks := false }, kinds := [], alts := [], laidByText := true, laidKinds := [.data, .pinned], laidTests := true, laidLooks := .later }
def DeltaWireUptoCardSaid : Prop := Claim7.holds Tryz.pinned (.plain (OpenSpec.upto deltaWireSpec)) deltaWireUptoCard

/-- THE SECOND FORM's CARD OF 'brackenkeep.DeltaCut'. -/
def deltaCutUptoCard : Claim7 := { stood := { row := deltaCutUptoRow, standIns := [], harness := (true, "e541f4eec14a5ef0ad5da8cf61768268597994727da7e290accd644d97b65d92"), looks := false }, kinds := [], alts := [], laidByText := true, laidKinds := [.data, .pinned], laidTests := true, laidLooks := .later }
def DeltaCutUptoCardSaid : Prop := Claim7.holds Tryz.pinned (.plain (OpenSpec.upto deltaCutSpec)) deltaCutUptoCard
end Rows
end Go.Proofs.YtfbakobmlbjncaaGreatDoor
