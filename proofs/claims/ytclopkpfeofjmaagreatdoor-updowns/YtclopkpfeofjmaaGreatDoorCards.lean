/-
  DERIVED. GIVEN WITH THE SEED: THE CARDS: each row of YtclopkpfeofjmaaGreatDoorRows.lean that lists a variable, with what it lists TIED to the program's text (the seventh form; the later family's looks); each row that meets fmt, with fmt's text TOLD by the authors' own Lean function (tested against real Go, not proved from fmt's source: count such statements apart). THE CARD IS WHAT COUNTS. Prove the row's statement (the work); the ties are given (YtclopkpfeofjmaaGreatDoorTie.lean); close each card by the builder's one call (the guide's Derived/Test/ToyasCard.lean, 'card_holds'). Laid BY PROGRAM, IN A SANDBOX (cutbox-door.mjs). By AI agents, Wed Nov 11 2026. No macro, syntax, notation, axiom, sorry.
-/
import Derived.Test.YtclopkpfeofjmaaGreatDoorRows
import GoSem.ClaimSeven
namespace Go.Proofs.YtclopkpfeofjmaaGreatDoor
namespace Rows

/-- THE TIED CARD OF 'brackenlaw.UpBytes'. -/
def upBytesCard : Claim7 := { stood := { row := upBytesRow, standIns := [], harness := (true, "5cef4a3c2eed2672eed504abd1a8b56ae4455be38110f8ca364d7867ee7cfbe7"), looks := true }, kinds := [], alts := [], laidByText := true, laidKinds := [.data, .pinned], laidTests := true, laidLooks := .later }
def UpBytesCardSaid : Prop := Claim7.holds Tryz.pinned (.plain (OpenSpec.ofChange upBytesSpec)) upBytesCard

/-- THE TIED CARD OF 'brackenlaw.UpDowns'. -/
def upDownsCard : Claim7 := { stood := { row := upDownsRow, standIns := [], harness := (true, "5cef4a3c2eed2672eed504abd1a8b56ae4455be38110f8ca364d7867ee7cfbe7"), looks := true }, kinds := [], alts := [], laidByText := true, laidKinds := [.data, .pinned], laidTests := true, laidLooks := .later }
def UpDownsCardSaid : Prop := Claim7.holds Tryz.pinned (.plain (OpenSpec.ofChange upDownsSpec)) upDownsCard

/-- THE SECOND FORM's CARD OF 'brackenlaw.UpBytes'. -/
def upBytesUptoCard : Claim7 := { stood := { row := upBytesUptoRow, standIns := [], harness := (true, "5cef4a3c2eed2672eed504abd1a8b56ae4455be38110f8ca364d7867ee7cfbe7"), looks := true }, kinds := [], alts := [], laidByText := true, laidKinds := [.data, .pinned], laidTests := true, laidLooks := .later }
def UpBytesUptoCardSaid : Prop := Claim7.holds Tryz.pinned (.plain (OpenSpec.upto upBytesSpec)) upBytesUptoCard

/-- THE SECOND FORM's CARD OF 'brackenlaw.UpDowns'. -/
def upDownsUptoCard : Claim7 := { stood := { row := upDownsUptoRow, standIns := [], harness := (true, "5cef4a3c2eed2672eed504abd1a8b56ae4455be38110f8ca364d7867ee7cfbe7"), looks := true }, kinds := [], alts := [], laidByText := true, laidKinds := [.data, .pinned], laidTests := true, laidLooks := .later }
def UpDownsUptoCardSaid : Prop := Claim7.holds Tryz.pinned (.plain (OpenSpec.upto upDownsSpec)) upDownsUptoCard
end Rows
end Go.Proofs.YtclopkpfeofjmaaGreatDoor
