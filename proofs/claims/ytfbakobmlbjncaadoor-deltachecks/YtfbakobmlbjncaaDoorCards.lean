/-
  DERIVED. GIVEN WITH THE SEED: THE CARDS: each row of YtfbakobmlbjncaaDoorRows.lean that lists a variable, with what it lists TIED to the program's text (the seventh form; the later family's looks); each row that meets fmt, with fmt's text TOLD by the authors' own Lean function (tested against real Go, not proved from fmt's source: count such statements apart). THE CARD IS WHAT COUNTS. Prove the row's statement (the work); the ties are given (YtfbakobmlbjncaaDoorTie.lean); close each card by the builder's one call (the guide's Derived/Test/ToyasCard.lean, 'card_holds'). Laid BY PROGRAM, IN A SANDBOX (cutbox-door.mjs). By AI agents, Wed Nov 11 2026. No macro, syntax, notation, axiom, sorry.
-/
import Derived.Test.YtfbakobmlbjncaaDoorRows
import GoSem.ClaimSeven
namespace Go.Proofs.YtfbakobmlbjncaaDoor
namespace Rows

/-- THE TIED CARD OF 'brackenlaw.DeltaChecks'. -/
def deltaChecksCard : Claim7 := { stood := { row := deltaChecksRow, standIns := [], harness := (true, "7d8b4b59041212229c76dc162a7c237721260304d7bd74590ee53acf7b60fc30"), looks := true }, kinds := [], alts := [], laidByText := true, laidKinds := [.data, .pinned], laidTests := true, laidLooks := .later }
def DeltaChecksCardSaid : Prop := Claim7.holds Tryd.pinned (.plain (OpenSpec.ofChange deltaChecksSpec)) deltaChecksCard

/-- THE TIED CARD OF 'brackenlaw.DeltaEncodes'. -/
def deltaEncodesCard : Claim7 := { stood := { row := deltaEncodesRow, standIns := [], harness := (true, "7d8b4b59041212229c76dc162a7c237721260304d7bd74590ee53acf7b60fc30"), looks := true }, kinds := [], alts := [], laidByText := true, laidKinds := [.data, .pinned], laidTests := true, laidLooks := .later }
def DeltaEncodesCardSaid : Prop := Claim7.holds Tryd.pinned (.plain (OpenSpec.ofChange deltaEncodesSpec)) deltaEncodesCard

/-- THE TIED CARD OF 'brackenlaw.DeltaDecodes'. -/
def deltaDecodesCard : Claim7 := { stood := { row := deltaDecodesRow, standIns := [], harness := (true, "7d8b4b59041212229c76dc162a7c237721260304d7bd74590ee53acf7b60fc30"), looks := true }, kinds := [], alts := [], laidByText := true, laidKinds := [.data, .pinned], laidTests := true, laidLooks := .later }
def DeltaDecodesCardSaid : Prop := Claim7.holds Tryd.pinned (.plain (OpenSpec.ofChange deltaDecodesSpec)) deltaDecodesCard

/-- THE SECOND FORM's CARD OF 'brackenlaw.DeltaChecks'. -/
def deltaChecksUptoCard : Claim7 := { stood := { row := deltaChecksUptoRow, standIns := [], harness := (true, "7d8b4b59041212229c76dc162a7c237721260304d7bd74590ee53acf7b60fc30"), looks := true }, kinds := [], alts := [], laidByText := true, laidKinds := [.data, .pinned], laidTests := true, laidLooks := .later }
def DeltaChecksUptoCardSaid : Prop := Claim7.holds Tryd.pinned (.plain (OpenSpec.upto deltaChecksSpec)) deltaChecksUptoCard

/-- THE SECOND FORM's CARD OF 'brackenlaw.DeltaEncodes'. -/
def deltaEncodesUptoCard : Claim7 := { stood := { row := deltaEncodesUptoRow, standIns := [], harness := (true, "7d8b4b59041212229c76dc162a7c237721260304d7bd74590ee53acf7b60fc30"), looks := true }, kinds := [], alts := [], laidByText := true, laidKinds := [.data, .pinned], laidTests := true, laidLooks := .later }
def DeltaEncodesUptoCardSaid : Prop := Claim7.holds Tryd.pinned (.plain (OpenSpec.upto deltaEncodesSpec)) deltaEncodesUptoCard

/-- THE SECOND FORM's CARD OF 'brackenlaw.DeltaDecodes'. -/
def deltaDecodesUptoCard : Claim7 := { stood := { row := deltaDecodesUptoRow, standIns := [], harness := (true, "7d8b4b59041212229c76dc162a7c237721260304d7bd74590ee53acf7b60fc30"), looks := true }, kinds := [], alts := [], laidByText := true, laidKinds := [.data, .pinned], laidTests := true, laidLooks := .later }
def DeltaDecodesUptoCardSaid : Prop := Claim7.holds Tryd.pinned (.plain (OpenSpec.upto deltaDecodesSpec)) deltaDecodesUptoCard
end Rows
end Go.Proofs.YtfbakobmlbjncaaDoor
