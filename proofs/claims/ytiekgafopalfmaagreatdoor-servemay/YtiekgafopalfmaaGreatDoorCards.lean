/-
  DERIVED. GIVEN WITH THE SEED: THE CARDS: each row of YtiekgafopalfmaaGreatDoorRows.lean that lists a variable, with what it lists TIED to the program's text (the seventh form; the later family's looks); each row that meets fmt, with fmt's text TOLD by the authors' own Lean function (tested against real Go, not proved from fmt's source: count such statements apart). THE CARD IS WHAT COUNTS. Prove the row's statement (the work); the ties are given (YtiekgafopalfmaaGreatDoorTie.lean); close each card by the builder's one call (the guide's Derived/Test/ToyasCard.lean, 'card_holds'). Laid BY PROGRAM, IN A SANDBOX (cutbox-door.mjs). By AI agents, Wed Nov 11 2026. No macro, syntax, notation, axiom, sorry.
-/
import Derived.Test.YtiekgafopalfmaaGreatDoorRows
import GoSem.ClaimSeven
namespace Go.Proofs.YtiekgafopalfmaaGreatDoor
namespace Rows

/-- THE TIED CARD OF 'brackenlaw.ServeDoes'. -/
def serveDoesCard : Claim7 := { stood := { row := serveDoesRow, standIns := [], harness := (true, "1f75dab196d7681b97f4a3db251f6b43ad977db0a4555a6c52cf99b312249aff"), looks := false }, kinds := [], alts := [], laidByText := true, laidKinds := [.data, .pinned], laidTests := true, laidLooks := .later }
def ServeDoesCardSaid : Prop := Claim7.holds Tryz.pinned (.plain (OpenSpec.ofChange serveDoesSpec)) serveDoesCard

/-- THE TIED CARD OF 'brackenkeep.ServeMay'. -/
def serveMayCard : Claim7 := { stood := { row := serveMayRow, standIns := [], harness := (true, "1f75dab196d7681b97f4a3db251f6b43ad977db0a4555a6c52cf99b312249aff"), looks := false }, kinds := [], alts := [], laidByText := true, laidKinds := [.data, .pinned], laidTests := true, laidLooks := .later }
def ServeMayCardSaid : Prop := Claim7.holds Tryz.pinned (.plain (OpenSpec.ofChange serveMaySpec)) serveMayCard

/-- THE SECOND FORM's CARD OF 'brackenlaw.ServeDoes'. -/
def serveDoesUptoCard : Claim7 := { stood := { row := serveDoesUptoRow, standIns := [], harness := (true, "1f75dab196d7681b97f4a3db251f6b43ad977db0a4555a6c52cf99b312249aff"), looks := false }, kinds := [], alts := [], laidByText := true, laidKinds := [.data, .pinned], laidTests := true, laidLooks := .later }
def ServeDoesUptoCardSaid : Prop := Claim7.holds Tryz.pinned (.plain (OpenSpec.upto serveDoesSpec)) serveDoesUptoCard

/-- THE SECOND FORM's CARD OF 'brackenkeep.ServeMay'. -/
def serveMayUptoCard : Claim7 := { stood := { row := serveMayUptoRow, standIns := [], harness := (true, "1f75dab196d7681b97f4a3db251f6b43ad977db0a4555a6c52cf99b312249aff"), looks := false }, kinds := [], alts := [], laidByText := true, laidKinds := [.data, .pinned], laidTests := true, laidLooks := .later }
def ServeMayUptoCardSaid : Prop := Claim7.holds Tryz.pinned (.plain (OpenSpec.upto serveMaySpec)) serveMayUptoCard
end Rows
end Go.Proofs.YtiekgafopalfmaaGreatDoor
