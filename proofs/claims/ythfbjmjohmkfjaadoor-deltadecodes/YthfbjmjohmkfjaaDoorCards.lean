/-
  DERIVED. GIVEN WITH THE SEED: THE CARDS: each row of YthfbjmjohmkfjaaDoorRows.lean that lists a variable, with what it lists TIED to the program's text (the seventh form; the later family's looks); each row that meets fmt, with fmt's text TOLD by the authors' own Lean function (tested against real Go, not proved from fmt's source: count such statements apart). THE CARD IS WHAT COUNTS. Prove the row's statement (the work); the ties are given (YthfbjmjohmkfjaaDoorTie.lean); close each card by the builder's one call (the guide's Derived/Test/ToyasCard.lean, 'card_holds'). Laid BY PROGRAM, IN A SANDBOX (cutbox-door.mjs). By AI agents, Wed Nov 11 2026. No macro, syntax, notation, axiom, sorry.
-/
import Derived.Test.YthfbjmjohmkfjaaDoorRows
import GoSem.ClaimSeven
namespace Go.Proofs.YthfbjmjohmkfjaaDoor
namespace Rows

/-- THE TIED CARD OF 'brackenlaw.DeltaEncodes'. -/
def deltaEncodesCard : Claim7 := { stood := { row := deltaEncodesRow, standIns := [], harness := (true, "95da0df96a8b98a81ce8de5468f51a371ebefdf87ea7ca0889f1897f445d7fb2"), looks := true }, kinds := [], alts := [], laidByText := true, laidKinds := [.data, .pinned], laidTests := true, laidLooks := .later }
def DeltaEncodesCardSaid : Prop := Claim7.holds Tryd.pinned (.plain (OpenSpec.ofChange deltaEncodesSpec)) deltaEncodesCard

/-- THE TIED CARD OF 'brackenlaw.DeltaDecodes'. -/
def deltaDecodesCard : Claim7 := { stood := { row := deltaDecodesRow, standIns := [], harness := (true, "95da0df96a8b98a81ce8de5468f51a371ebefdf87ea7ca0889f1897f445d7fb2"), looks := true }, kinds := [], alts := [], laidByText := true, laidKinds := [.data, .pinned], laidTests := true, laidLooks := .later }
def DeltaDecodesCardSaid : Prop := Claim7.holds Tryd.pinned (.plain (OpenSpec.ofChange deltaDecodesSpec)) deltaDecodesCard

/-- THE SECOND FORM's CARD OF 'brackenlaw.DeltaEncodes'. -/
def deltaEncodesUptoCard : Claim7 := { stood := { row := deltaEncodesUptoRow, standIns := [], harness := (true, "95da0df96a8b98a81ce8de5468f51a371ebefdf87ea7ca0889f1897f445d7fb2"), looks := true }, kinds := [], alts := [], laidByText := true, laidKinds := [.data, .pinned], laidTests := true, laidLooks := .later }
def DeltaEncodesUptoCardSaid : Prop := Claim7.holds Tryd.pinned (.plain (OpenSpec.upto deltaEncodesSpec)) deltaEncodesUptoCard

/-- THE SECOND FORM's CARD OF 'brackenlaw.DeltaDecodes'. -/
def deltaDecodesUptoCard : Claim7 := { stood := { row := deltaDecodesUptoRow, standIns := [], harness := (true, "95da0df96a8b98a81ce8de5468f51a371ebefdf87ea7ca0889f1897f445d7fb2"), looks := true }, kinds := [], alts := [], laidByText := true, laidKinds := [.data, .pinned], laidTests := true, laidLooks := .later }
def DeltaDecodesUptoCardSaid : Prop := Claim7.holds Tryd.pinned (.plain (OpenSpec.upto deltaDecodesSpec)) deltaDecodesUptoCard
end Rows
end Go.Proofs.YthfbjmjohmkfjaaDoor
