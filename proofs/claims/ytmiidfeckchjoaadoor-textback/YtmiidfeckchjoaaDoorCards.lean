/-
  DERIVED. GIVEN WITH THE SEED: THE CARDS: each row of YtmiidfeckchjoaaDoorRows.lean that lists a variable, with what it lists TIED to the program's text (the seventh form; the later family's looks); each row that meets fmt, with fmt's text TOLD by the authors' own Lean function (tested against real Go, not proved from fmt's source: count such statements apart). THE CARD IS WHAT COUNTS. Prove the row's statement (the work); the ties are given (YtmiidfeckchjoaaDoorTie.lean); close each card by the builder's one call (the guide's Derived/Test/ToyasCard.lean, 'card_holds'). Laid BY PROGRAM, IN A SANDBOX (cutbox-door.mjs). By AI agents, Wed Nov 11 2026. No macro, syntax, notation, axiom, sorry.
-/
import Derived.Test.YtmiidfeckchjoaaDoorRows
import GoSem.ClaimSeven
namespace Go.Proofs.YtmiidfeckchjoaaDoor
namespace Rows

/-- THE TIED CARD OF 'brackenlaw.PrimTexts'. -/
def primTextsCard : Claim7 := { stood := { row := primTextsRow, standIns := [], harness := (true, "c1ed4edcd91091da6733e4a937211d6268a5b15af79f77259415251b4f2fd1de"), looks := false }, kinds := [], alts := [], laidByText := true, laidKinds := [.data, .pinned], laidTests := true, laidLooks := .later }
def PrimTextsCardSaid : Prop := Claim7.holds Tryd.pinned (.plain (OpenSpec.ofChange primTextsSpec)) primTextsCard

/-- THE TIED CARD OF 'brackenlaw.PrimTextReads'. -/
def primTextReadsCard : Claim7 := { stood := { row := primTextReadsRow, standIns := [], harness := (true, "c1ed4edcd91091da6733e4a937211d6268a5b15af79f77259415251b4f2fd1de"), looks := false }, kinds := [], alts := [], laidByText := true, laidKinds := [.data, .pinned], laidTests := true, laidLooks := .later }
def PrimTextReadsCardSaid : Prop := Claim7.holds Tryd.pinned (.plain (OpenSpec.ofChange primTextReadsSpec)) primTextReadsCard

/-- THE TIED CARD OF 'brackenkeep.TextBack'. -/
def textBackCard : Claim7 := { stood := { row := textBackRow, standIns := [], harness := (true, "c1ed4edcd91091da6733e4a937211d6268a5b15af79f77259415251b4f2fd1de"), looks := false }, kinds := [], alts := [], laidByText := true, laidKinds := [.data, .pinned], laidTests := true, laidLooks := .later }
def TextBackCardSaid : Prop := Claim7.holds Tryd.pinned (.plain (OpenSpec.ofChange textBackSpec)) textBackCard

/-- THE SECOND FORM's CARD OF 'brackenlaw.PrimTexts'. -/
def primTextsUptoCard : Claim7 := { stood := { row := primTextsUptoRow, standIns := [], harness := (true, "c1ed4edcd91091da6733e4a937211d6268a5b15af79f77259415251b4f2fd1de"), looks := false }, kinds := [], alts := [], laidByText := true, laidKinds := [.data, .pinned], laidTests := true, laidLooks := .later }
def PrimTextsUptoCardSaid : Prop := Claim7.holds Tryd.pinned (.plain (OpenSpec.upto primTextsSpec)) primTextsUptoCard

/-- THE SECOND FORM's CARD OF 'brackenlaw.PrimTextReads'. -/
def primTextReadsUptoCard : Claim7 := { stood := { row := primTextReadsUptoRow, standIns := [], harness := (true, "c1ed4edcd91091da6733e4a937211d6268a5b15af79f77259415251b4f2fd1de"), looks := false }, kinds := [], alts := [], laidByText := true, laidKinds := [.data, .pinned], laidTests := true, laidLooks := .later }
def PrimTextReadsUptoCardSaid : Prop := Claim7.holds Tryd.pinned (.plain (OpenSpec.upto primTextReadsSpec)) primTextReadsUptoCard

/-- THE SECOND FORM's CARD OF 'brackenkeep.TextBack'. -/
def textBackUptoCard : Claim7 := { stood := { row := textBackUptoRow, standIns := [], harness := (true, "c1ed4edcd91091da6733e4a937211d6268a5b15af79f77259415251b4f2fd1de"), looks := false }, kinds := [], alts := [], laidByText := true, laidKinds := [.data, .pinned], laidTests := true, laidLooks := .later }
def TextBackUptoCardSaid : Prop := Claim7.holds Tryd.pinned (.plain (OpenSpec.upto textBackSpec)) textBackUptoCard
end Rows
end Go.Proofs.YtmiidfeckchjoaaDoor
