/-
  DERIVED. GIVEN WITH THE SEED: THE CARDS: each row of YtkdjpciegcofbaaDoorRows.lean that lists a variable, with what it lists TIED to the program's text (the seventh form; the later family's looks); each row that meets fmt, with fmt's text TOLD by the authors' own Lean function (tested against real Go, not proved from fmt's source: count such statements apart). THE CARD IS WHAT COUNTS. Prove the row's statement (the work); the ties are given (YtkdjpciegcofbaaDoorTie.lean); close each card by the builder's one call (the guide's Derived/Test/ToyasCard.lean, 'card_holds'). Laid BY PROGRAM, IN A SANDBOX (cutbox-door.mjs). By AI agents, Wed Nov 11 2026. No macro, syntax, notation, axiom, sorry.
-/
import Derived.Test.YtkdjpciegcofbaaDoorRows
import GoSem.ClaimSeven
namespace Go.Proofs.YtkdjpciegcofbaaDoor
namespace Rows

/-- THE TIED CARD OF 'brackenlaw.StateChecks'. -/
def stateChecksCard : Claim7 := { stood := { row := stateChecksRow, standIns := [], harness := (true, "fe978e81b8977810346a05415a8bfd5fb904664c895c94fdcc43ef8dbbf0520e"), looks := false }, kinds := [], alts := [], laidByText := true, laidKinds := [.data, .pinned], laidTests := true, laidLooks := .later }
def StateChecksCardSaid : Prop := Claim7.holds Tryd.pinned (.plain (OpenSpec.ofChange stateChecksSpec)) stateChecksCard

/-- THE TIED CARD OF 'brackenlaw.StateFits'. -/
def stateFitsCard : Claim7 := { stood := { row := stateFitsRow, standIns := [], harness := (true, "fe978e81b8977810346a05415a8bfd5fb904664c895c94fdcc43ef8dbbf0520e"), looks := false }, kinds := [], alts := [], laidByText := true, laidKinds := [.data, .pinned], laidTests := true, laidLooks := .later }
def StateFitsCardSaid : Prop := Claim7.holds Tryd.pinned (.plain (OpenSpec.ofChange stateFitsSpec)) stateFitsCard

/-- THE TIED CARD OF 'brackenlaw.StateUsed'. -/
def stateUsedCard : Claim7 := { stood := { row := stateUsedRow, standIns := [], harness := (true, "fe978e81b8977810346a05415a8bfd5fb904664c895c94fdcc43ef8dbbf0520e"), looks := false }, kinds := [], alts := [], laidByText := true, laidKinds := [.data, .pinned], laidTests := true, laidLooks := .later }
def StateUsedCardSaid : Prop := Claim7.holds Tryd.pinned (.plain (OpenSpec.ofChange stateUsedSpec)) stateUsedCard

/-- THE TIED CARD OF 'brackenkeep.StateLess'. -/
def stateLessCard : Claim7 := { stood := { row := stateLessRow, standIns := [], harness := (true, "fe978e81b8977810346a05415a8bfd5fb904664c895c94fdcc43ef8dbbf0520e"), looks := false }, kinds := [], alts := [], laidByText := true, laidKinds := [.data, .pinned], laidTests := true, laidLooks := .later }
def StateLessCardSaid : Prop := Claim7.holds Tryd.pinned (.plain (OpenSpec.ofChange stateLessSpec)) stateLessCard

/-- THE TIED CARD OF 'brackenkeep.StateSums'. -/
def stateSumsCard : Claim7 := { stood := { row := stateSumsRow, standIns := [], harness := (true, "fe978e81b8977810346a05415a8bfd5fb904664c895c94fdcc43ef8dbbf0520e"), looks := false }, kinds := [], alts := [], laidByText := true, laidKinds := [.data, .pinned], laidTests := true, laidLooks := .later }
def StateSumsCardSaid : Prop := Claim7.holds Tryd.pinned (.plain (OpenSpec.ofChange stateSumsSpec)) stateSumsCard

/-- THE TIED CARD OF 'brackenkeep.StateFit'. -/
def stateFitCard : Claim7 := { stood := { row := stateFitRow, standIns := [], harness := (true, "fe978e81b8977810346a05415a8bfd5fb904664c895c94fdcc43ef8dbbf0520e"), looks := false }, kinds := [], alts := [], laidByText := true, laidKinds := [.data, .pinned], laidTests := true, laidLooks := .later }
def StateFitCardSaid : Prop := Claim7.holds Tryd.pinned (.plain (OpenSpec.ofChange stateFitSpec)) stateFitCard

/-- THE TIED CARD OF 'brackenkeep.StateMore'. -/
def stateMoreCard : Claim7 := { stood := { row := stateMoreRow, standIns := [], harness := (true, "fe978e81b8977810346a05415a8bfd5fb904664c895c94fdcc43ef8dbbf0520e"), looks := false }, kinds := [], alts := [], laidByText := true, laidKinds := [.data, .pinned], laidTests := true, laidLooks := .later }
def StateMoreCardSaid : Prop := Claim7.holds Tryd.pinned (.plain (OpenSpec.ofChange stateMoreSpec)) stateMoreCard

/-- THE TIED CARD OF 'brackenkeep.StateRooms'. -/
def stateRoomsCard : Claim7 := { stood := { row := stateRoomsRow, standIns := [], harness := (true, "fe978e81b8977810346a05415a8bfd5fb904664c895c94fdcc43ef8dbbf0520e"), looks := false }, kinds := [], alts := [], laidByText := true, laidKinds := [.data, .pinned], laidTests := true, laidLooks := .later }
def StateRoomsCardSaid : Prop := Claim7.holds Tryd.pinned (.plain (OpenSpec.ofChange stateRoomsSpec)) stateRoomsCard

/-- THE SECOND FORM's CARD OF 'brackenlaw.StateChecks'. -/
def stateChecksUptoCard : Claim7 := { stood := { row := stateChecksUptoRow, standIns := [], harness := (true, "fe978e81b8977810346a05415a8bfd5fb904664c895c94fdcc43ef8dbbf0520e"), looks := false }, kinds := [], alts := [], laidByText := true, laidKinds := [.data, .pinned], laidTests := true, laidLooks := .later }
def StateChecksUptoCardSaid : Prop := Claim7.holds Tryd.pinned (.plain (OpenSpec.upto stateChecksSpec)) stateChecksUptoCard

/-- THE SECOND FORM's CARD OF 'brackenlaw.StateFits'. -/
def stateFitsUptoCard : Claim7 := { stood := { row := stateFitsUptoRow, standIns := [], harness := (true, "fe978e81b8977810346a05415a8bfd5fb904664c895c94fdcc43ef8dbbf0520e"), looks := false }, kinds := [], alts := [], laidByText := true, laidKinds := [.data, .pinned], laidTests := true, laidLooks := .later }
def StateFitsUptoCardSaid : Prop := Claim7.holds Tryd.pinned (.plain (OpenSpec.upto stateFitsSpec)) stateFitsUptoCard

/-- THE SECOND FORM's CARD OF 'brackenlaw.StateUsed'. -/
def stateUsedUptoCard : Claim7 := { stood := { row := stateUsedUptoRow, standIns := [], harness := (true, "fe978e81b8977810346a05415a8bfd5fb904664c895c94fdcc43ef8dbbf0520e"), looks := false }, kinds := [], alts := [], laidByText := true, laidKinds := [.data, .pinned], laidTests := true, laidLooks := .later }
def StateUsedUptoCardSaid : Prop := Claim7.holds Tryd.pinned (.plain (OpenSpec.upto stateUsedSpec)) stateUsedUptoCard

/-- THE SECOND FORM's CARD OF 'brackenkeep.StateLess'. -/
def stateLessUptoCard : Claim7 := { stood := { row := stateLessUptoRow, standIns := [], harness := (true, "fe978e81b8977810346a05415a8bfd5fb904664c895c94fdcc43ef8dbbf0520e"), looks := false }, kinds := [], alts := [], laidByText := true, laidKinds := [.data, .pinned], laidTests := true, laidLooks := .later }
def StateLessUptoCardSaid : Prop := Claim7.holds Tryd.pinned (.plain (OpenSpec.upto stateLessSpec)) stateLessUptoCard

/-- THE SECOND FORM's CARD OF 'brackenkeep.StateSums'. -/
def stateSumsUptoCard : Claim7 := { stood := { row := stateSumsUptoRow, standIns := [], harness := (true, "fe978e81b8977810346a05415a8bfd5fb904664c895c94fdcc43ef8dbbf0520e"), looks := false }, kinds := [], alts := [], laidByText := true, laidKinds := [.data, .pinned], laidTests := true, laidLooks := .later }
def StateSumsUptoCardSaid : Prop := Claim7.holds Tryd.pinned (.plain (OpenSpec.upto stateSumsSpec)) stateSumsUptoCard

/-- THE SECOND FORM's CARD OF 'brackenkeep.StateFit'. -/
def stateFitUptoCard : Claim7 := { stood := { row := stateFitUptoRow, standIns := [], harness := (true, "fe978e81b8977810346a05415a8bfd5fb904664c895c94fdcc43ef8dbbf0520e"), looks := false }, kinds := [], alts := [], laidByText := true, laidKinds := [.data, .pinned], laidTests := true, laidLooks := .later }
def StateFitUptoCardSaid : Prop := Claim7.holds Tryd.pinned (.plain (OpenSpec.upto stateFitSpec)) stateFitUptoCard

/-- THE SECOND FORM's CARD OF 'brackenkeep.StateMore'. -/
def stateMoreUptoCard : Claim7 := { stood := { row := stateMoreUptoRow, standIns := [], harness := (true, "fe978e81b8977810346a05415a8bfd5fb904664c895c94fdcc43ef8dbbf0520e"), looks := false }, kinds := [], alts := [], laidByText := true, laidKinds := [.data, .pinned], laidTests := true, laidLooks := .later }
def StateMoreUptoCardSaid : Prop := Claim7.holds Tryd.pinned (.plain (OpenSpec.upto stateMoreSpec)) stateMoreUptoCard

/-- THE SECOND FORM's CARD OF 'brackenkeep.StateRooms'. -/
def stateRoomsUptoCard : Claim7 := { stood := { row := stateRoomsUptoRow, standIns := [], harness := (true, "fe978e81b8977810346a05415a8bfd5fb904664c895c94fdcc43ef8dbbf0520e"), looks := false }, kinds := [], alts := [], laidByText := true, laidKinds := [.data, .pinned], laidTests := true, laidLooks := .later }
def StateRoomsUptoCardSaid : Prop := Claim7.holds Tryd.pinned (.plain (OpenSpec.upto stateRoomsSpec)) stateRoomsUptoCard
end Rows
end Go.Proofs.YtkdjpciegcofbaaDoor
