/-
  DERIVED. GIVEN WITH THE SEED: THE CARDS: each row of YthbgaphidojneaaGreatDoorRows.lean that lists a variable, with what it lists TIED to the program's text (the seventh form; the later family's looks); each row that meets fmt, with fmt's text TOLD by the authors' own Lean function (tested against real Go, not proved from fmt's source: count such statements apart). THE CARD IS WHAT COUNTS. Prove the row's statement (the work); the ties are given (YthbgaphidojneaaGreatDoorTie.lean); close each card by the builder's one call (the guide's Derived/Test/ToyasCard.lean, 'card_holds'). Laid BY PROGRAM, IN A SANDBOX (cutbox-door.mjs). By AI agents, Wed Nov 11 2026. No macro, syntax, notation, axiom, sorry.
-/
import Derived.Test.YthbgaphidojneaaGreatDoorRows
import GoSem.ClaimSeven
namespace Go.Proofs.YthbgaphidojneaaGreatDoor
namespace Rows

/-- THE TIED CARD OF 'brackenlaw.JSONParses'. -/
def jSONParsesCard : Claim7 := { stood := { row := jSONParsesRow, standIns := [], harness := (true, "8a842955ecf66a447b782728fd60647b33a487a3189e2ece328e179a3e57a20e"), looks := true }, kinds := [], alts := [], laidByText := true, laidKinds := [.data, .data, .data, .data, .sentinel, .sentinel, .pinned], laidTests := true, laidLooks := .later }
def JSONParsesCardSaid : Prop := Claim7.holds Tryz.pinned (.plain (OpenSpec.ofChange jSONParsesSpec)) jSONParsesCard

/-- THE TIED CARD OF 'brackenkeep.JSONBack'. -/
def jSONBackCard : Claim7 := { stood := { row := jSONBackRow, standIns := [], harness := (true, "8a842955ecf66a447b782728fd60647b33a487a3189e2ece328e179a3e57a20e"), looks := true }, kinds := [], alts := [], laidByText := true, laidKinds := [.data, .data, .data, .data, .sentinel, .sentinel, .pinned], laidTests := true, laidLooks := .later }
def JSONBackCardSaid : Prop := Claim7.holds Tryz.pinned (.plain (OpenSpec.ofChange jSONBackSpec)) jSONBackCard

/-- THE TIED CARD OF 'brackenkeep.JSONCut'. -/
def jSONCutCard : Claim7 := { stood := { row := jSONCutRow, standIns := [], harness := (true, "8a842955ecf66a447b782728fd60647b33a487a3189e2ece328e179a3e57a20e"), looks := true }, kinds := [], alts := [], laidByText := true, laidKinds := [.data, .data, .data, .data, .sentinel, .sentinel, .pinned], laidTests := true, laidLooks := .later }
def JSONCutCardSaid : Prop := Claim7.holds Tryz.pinned (.plain (OpenSpec.ofChange jSONCutSpec)) jSONCutCard

/-- THE TIED CARD OF 'brackenkeep.JSONWire'. -/
def jSONWireCard : Claim7 := { stood := { row := jSONWireRow, standIns := [], harness := (true, "8a842955ecf66a447b782728fd60647b33a487a3189e2ece328e179a3e57a20e"), looks := true }, kinds := [], alts := [], laidByText := true, laidKinds := [.data, .data, .data, .data, .sentinel, .sentinel, .pinned], laidTests := true, laidLooks := .later }
def JSONWireCardSaid : Prop := Claim7.holds Tryz.pinned (.plain (OpenSpec.ofChange jSONWireSpec)) jSONWireCard

/-- THE SECOND FORM's CARD OF 'brackenlaw.JSONParses'. -/
def jSONParsesUptoCard : Claim7 := { stood := { row := jSONParsesUptoRow, standIns := [], harness := (true, "8a842955ecf66a447b782728fd60647b33a487a3189e2ece328e179a3e57a20e"), looks := true }, kinds := [], alts := [], laidByText := true, laidKinds := [.data, .data, .data, .data, .sentinel, .sentinel, .pinned], laidTests := true, laidLooks := .later }
def JSONParsesUptoCardSaid : Prop := Claim7.holds Tryz.pinned (.plain (OpenSpec.upto jSONParsesSpec)) jSONParsesUptoCard

/-- THE SECOND FORM's CARD OF 'brackenkeep.JSONBack'. -/
def jSONBackUptoCard : Claim7 := { stood := { row := jSONBackUptoRow, standIns := [], harness := (true, "8a842955ecf66a447b782728fd60647b33a487a3189e2ece328e179a3e57a20e"), looks := true }, kinds := [], alts := [], laidByText := true, laidKinds := [.data, .data, .data, .data, .sentinel, .sentinel, .pinned], laidTests := true, laidLooks := .later }
def JSONBackUptoCardSaid : Prop := Claim7.holds Tryz.pinned (.plain (OpenSpec.upto jSONBackSpec)) jSONBackUptoCard

/-- THE SECOND FORM's CARD OF 'brackenkeep.JSONCut'. -/
def jSONCutUptoCard : Claim7 := { stood := { row := jSONCutUptoRow, standIns := [], harness := (true, "8a842955ecf66a447b782728fd60647b33a487a3189e2ece328e179a3e57a20e"), looks := true }, kinds := [], alts := [], laidByText := true, laidKinds := [.data, .data, .data, .data, .sentinel, .sentinel, .pinned], laidTests := true, laidLooks := .later }
def JSONCutUptoCardSaid : Prop := Claim7.holds Tryz.pinned (.plain (OpenSpec.upto jSONCutSpec)) jSONCutUptoCard

/-- THE SECOND FORM's CARD OF 'brackenkeep.JSONWire'. -/
def jSONWireUptoCard : Claim7 := { stood := { row := jSONWireUptoRow, standIns := [], harness := (true, "8a842955ecf66a447b782728fd60647b33a487a3189e2ece328e179a3e57a20e"), looks := true }, kinds := [], alts := [], laidByText := true, laidKinds := [.data, .data, .data, .data, .sentinel, .sentinel, .pinned], laidTests := true, laidLooks := .later }
def JSONWireUptoCardSaid : Prop := Claim7.holds Tryz.pinned (.plain (OpenSpec.upto jSONWireSpec)) jSONWireUptoCard
end Rows
end Go.Proofs.YthbgaphidojneaaGreatDoor
