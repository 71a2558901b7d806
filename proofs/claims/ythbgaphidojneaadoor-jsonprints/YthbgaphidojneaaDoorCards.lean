/-
  DERIVED. GIVEN WITH THE SEED: THE CARDS: each row of YthbgaphidojneaaDoorRows.lean that lists a variable, with what it lists TIED to the program's text (the seventh form; the later family's looks); each row that meets fmt, with fmt's text TOLD by the authors' own Lean function (tested against real Go, not proved from fmt's source: count such statements apart). THE CARD IS WHAT COUNTS. Prove the row's statement (the work); the ties are given (YthbgaphidojneaaDoorTie.lean); close each card by the builder's one call (the guide's Derived/Test/ToyasCard.lean, 'card_holds'). Laid BY PROGRAM, IN A SANDBOX (cutbox-door.mjs). By AI agents, Wed Nov 11 2026. No macro, syntax, notation, axiom, sorry.
-/
import Derived.Test.YthbgaphidojneaaDoorRows
import GoSem.ClaimSeven
namespace Go.Proofs.YthbgaphidojneaaDoor
namespace Rows

/-- THE TIED CARD OF 'brackenlaw.JSONPrints'. -/
def jSONPrintsCard : Claim7 := { stood := { row := jSONPrintsRow, standIns := [], harness := (true, "3d6226aefc73345b9e2f0e07398f1c9b19839c45f9aeba17c1bf355acff60e91"), looks := false }, kinds := [], alts := [], laidByText := true, laidKinds := [.data, .data, .data, .data, .pinned], laidTests := true, laidLooks := .later }
def JSONPrintsCardSaid : Prop := Claim7.holds Tryd.pinned (.plain (OpenSpec.ofChange jSONPrintsSpec)) jSONPrintsCard

/-- THE TIED CARD OF 'brackenkeep.JSONQuoted'. -/
def jSONQuotedCard : Claim7 := { stood := { row := jSONQuotedRow, standIns := [], harness := (true, "3d6226aefc73345b9e2f0e07398f1c9b19839c45f9aeba17c1bf355acff60e91"), looks := false }, kinds := [], alts := [], laidByText := true, laidKinds := [.data, .data, .data, .data, .pinned], laidTests := true, laidLooks := .later }
def JSONQuotedCardSaid : Prop := Claim7.holds Tryd.pinned (.plain (OpenSpec.ofChange jSONQuotedSpec)) jSONQuotedCard

/-- THE TIED CARD OF 'brackenkeep.JSONParts'. -/
def jSONPartsCard : Claim7 := { stood := { row := jSONPartsRow, standIns := [], harness := (true, "3d6226aefc73345b9e2f0e07398f1c9b19839c45f9aeba17c1bf355acff60e91"), looks := false }, kinds := [], alts := [], laidByText := true, laidKinds := [.data, .data, .data, .data, .pinned], laidTests := true, laidLooks := .later }
def JSONPartsCardSaid : Prop := Claim7.holds Tryd.pinned (.plain (OpenSpec.ofChange jSONPartsSpec)) jSONPartsCard

/-- THE SECOND FORM's CARD OF 'brackenlaw.JSONPrints'. -/
def jSONPrintsUptoCard : Claim7 := { stood := { row := jSONPrintsUptoRow, standIns := [], harness := (true, "3d6226aefc73345b9e2f0e07398f1c9b19839c45f9aeba17c1bf355acff60e91"), looks := false }, kinds := [], alts := [], laidByText := true, laidKinds := [.data, .data, .data, .data, .pinned], laidTests := true, laidLooks := .later }
def JSONPrintsUptoCardSaid : Prop := Claim7.holds Tryd.pinned (.plain (OpenSpec.upto jSONPrintsSpec)) jSONPrintsUptoCard

/-- THE SECOND FORM's CARD OF 'brackenkeep.JSONQuoted'. -/
def jSONQuotedUptoCard : Claim7 := { stood := { row := jSONQuotedUptoRow, standIns := [], harness := (true, "3d6226aefc73345b9e2f0e07398f1c9b19839c45f9aeba17c1bf355acff60e91"), looks := false }, kinds := [], alts := [], laidByText := true, laidKinds := [.data, .data, .data, .data, .pinned], laidTests := true, laidLooks := .later }
def JSONQuotedUptoCardSaid : Prop := Claim7.holds Tryd.pinned (.plain (OpenSpec.upto jSONQuotedSpec)) jSONQuotedUptoCard

/-- THE SECOND FORM's CARD OF 'brackenkeep.JSONParts'. -/
def jSONPartsUptoCard : Claim7 := { stood := { row := jSONPartsUptoRow, standIns := [], harness := (true, "3d6226aefc73345b9e2f0e07398f1c9b19839c45f9aeba17c1bf355acff60e91"), looks := false }, kinds := [], alts := [], laidByText := true, laidKinds := [.data, .data, .data, .data, .pinned], laidTests := true, laidLooks := .later }
def JSONPartsUptoCardSaid : Prop := Claim7.holds Tryd.pinned (.plain (OpenSpec.upto jSONPartsSpec)) jSONPartsUptoCard
end Rows
end Go.Proofs.YthbgaphidojneaaDoor
