/-
  DERIVED. GIVEN WITH THE SEED: THE CARDS: each row of YthfbjmjohmkfjaaGreatDoorRows.lean that lists a variable, with what it lists TIED to the program's text (the seventh form; the later family's looks); each row that meets fmt, with fmt's text TOLD by the authors' own Lean function (tested against real Go, not proved from fmt's source: count such statements apart). THE CARD IS WHAT COUNTS. Prove the row's statement (the work); the ties are given (YthfbjmjohmkfjaaGreatDoorTie.lean); close each card by the builder's one call (the guide's Derived/Test/ToyasCard.lean, 'card_holds'). Laid BY PROGRAM, IN A SANDBOX (cutbox-door.mjs). By AI agents, Wed Nov 11 2026. No macro, syntax, notation, axiom, sorry.
-/
import Derived.Test.YthfbjmjohmkfjaaGreatDoorRows
import GoSem.ClaimSeven
namespace Go.Proofs.YthfbjmjohmkfjaaGreatDoor
namespace Rows

/-- THE TIED CARD OF 'brackenlaw.DeltaDiffs'. -/
def deltaDiffsCard : Claim7 := { stood := { row := deltaDiffsRow, standIns := [], harness := (true, "cc85d353562476f0c2e3a500e466c0d83e04615b1e25027702fab633d15b3dde"), looks := false }, kinds := [], alts := [], laidByText := true, laidKinds := [.data, .pinned], laidTests := true, laidLooks := .later }
def DeltaDiffsCardSaid : Prop := Claim7.holds Tryz.pinned (.plain (OpenSpec.ofChange deltaDiffsSpec)) deltaDiffsCard

/-- THE TIED CARD OF 'brackenlaw.DeltaApplies'. -/
def deltaAppliesCard : Claim7 := { stood := { row := deltaAppliesRow, standIns := [], harness := (true, "cc85d353562476f0c2e3a500e466c0d83e04615b1e25027702fab633d15b3dde"), looks := false }, kinds := [], alts := [], laidByText := true, laidKinds := [.data, .pinned], laidTests := true, laidLooks := .later }
def DeltaAppliesCardSaid : Prop := Claim7.holds Tryz.pinned (.plain (OpenSpec.ofChange deltaAppliesSpec)) deltaAppliesCard

/-- THE TIED CARD OF 'brackenkeep.DeltaWire'. -/
def deltaWireCard : Claim7 := { stood := { row := deltaWireRow, standIns := [], harness := (true, "cc85d353562476f0c2e3a500e466c0d83e04615b1e25027702fab633d15b3dde"), looks := false }, kinds := [], alts := [], laidByText := true, laidKinds := [.data, .pinned], laidTests := true, laidLooks := .later }
def DeltaWireCardSaid : Prop := Claim7.holds Tryz.pinned (.plain (OpenSpec.ofChange deltaWireSpec)) deltaWireCard

/-- THE TIED CARD OF 'brackenkeep.DeltaCut'. -/
def deltaCutCard : Claim7 := { stood := { row := deltaCutRow, standIns := [], harness := (true, "cc85d353562476f0c2e3a500e466c0d83e04615b1e25027702fab633d15b3dde"), looks := false }, kinds := [], alts := [], laidByText := true, laidKinds := [.data, .pinned], laidTests := true, laidLooks := .later }
def DeltaCutCardSaid : Prop := Claim7.holds Tryz.pinned (.plain (OpenSpec.ofChange deltaCutSpec)) deltaCutCard

/-- THE TIED CARD OF 'brackenkeep.DeltaAll'. -/
def deltaAllCard : Claim7 := { stood := { row := deltaAllRow, standIns := [], harness := (true, "cc85d353562476f0c2e3a500e466c0d83e04615b1e25027702fab633d15b3dde"), looks := false }, kinds := [], alts := [], laidByText := true, laidKinds := [.data, .pinned], laidTests := true, laidLooks := .later }
def DeltaAllCardSaid : Prop := Claim7.holds Tryz.pinned (.plain (OpenSpec.ofChange deltaAllSpec)) deltaAllCard

/-- THE SECOND FORM's CARD OF 'brackenlaw.DeltaDiffs'. -/
def deltaDiffsUptoCard : Claim7 := { stood := { row := deltaDiffsUptoRow, standIns := [], harness := (true, "cc85d353562476f0c2e3a500e466c0d83e04615b1e25027702fab633d15b3dde"), looks := false }, kinds := [], alts := [], laidByText := true, laidKinds := [.data, .pinned], laidTests := true, laidLooks := .later }
def DeltaDiffsUptoCardSaid : Prop := Claim7.holds Tryz.pinned (.plain (OpenSpec.upto deltaDiffsSpec)) deltaDiffsUptoCard

/-- THE SECOND FORM's CARD OF 'brackenlaw.DeltaApplies'. -/
def deltaAppliesUptoCard : Claim7 := { stood := { row := deltaAppliesUptoRow, standIns := [], harness := (true, "cc85d353562476f0c2e3a500e466c0d83e04615b1e25027702fab633d15b3dde"), looks := false }, kinds := [], alts := [], laidByText := true, laidKinds := [.data, .pinned], laidTests := true, laidLooks := .later }
def DeltaAppliesUptoCardSaid : Prop := Claim7.holds Tryz.pinned (.plain (OpenSpec.upto deltaAppliesSpec)) deltaAppliesUptoCard

/-- THE SECOND FORM's CARD OF 'brackenkeep.DeltaWire'. -/
def deltaWireUptoCard : Claim7 := { stood := { row := deltaWireUptoRow, standIns := [], harness := (true, "cc85d353562476f0c2e3a500e466c0d83e04615b1e25027702fab633d15b3dde"), looks := false }, kinds := [], alts := [], laidByText := true, laidKinds := [.data, .pinned], laidTests := true, laidLooks := .later }
def DeltaWireUptoCardSaid : Prop := Claim7.holds Tryz.pinned (.plain (OpenSpec.upto deltaWireSpec)) deltaWireUptoCard

/-- THE SECOND FORM's CARD OF 'brackenkeep.DeltaCut'. -/
def deltaCutUptoCard : Claim7 := { stood := { row := deltaCutUptoRow, standIns := [], harness := (true, "cc85d353562476f0c2e3a500e466c0d83e04615b1e25027702fab633d15b3dde"), looks := false }, kinds := [], alts := [], laidByText := true, laidKinds := [.data, .pinned], laidTests := true, laidLooks := .later }
def DeltaCutUptoCardSaid : Prop := Claim7.holds Tryz.pinned (.plain (OpenSpec.upto deltaCutSpec)) deltaCutUptoCard

/-- THE SECOND FORM's CARD OF 'brackenkeep.DeltaAll'. -/
def deltaAllUptoCard : Claim7 := { stood := { row := deltaAllUptoRow, standIns := [], harness := (true, "cc85d353562476f0c2e3a500e466c0d83e04615b1e25027702fab633d15b3dde"), looks := false }, kinds := [], alts := [], laidByText := true, laidKinds := [.data, .pinned], laidTests := true, laidLooks := .later }
def DeltaAllUptoCardSaid : Prop := Claim7.holds Tryz.pinned (.plain (OpenSpec.upto deltaAllSpec)) deltaAllUptoCard
end Rows
end Go.Proofs.YthfbjmjohmkfjaaGreatDoor
