/-
  DERIVED. GIVEN WITH THE SEED: THE CARDS: each row of YtclopkpfeofjmaaDoorRows.lean that lists a variable, with what it lists TIED to the program's text (the seventh form; the later family's looks); each row that meets fmt, with fmt's text TOLD by the authors' own Lean function (tested against real Go, not proved from fmt's source: count such statements apart). THE CARD IS WHAT COUNTS. Prove the row's statement (the work); the ties are given (YtclopkpfeofjmaaDoorTie.lean); close each card by the builder's one call (the guide's Derived/Test/ToyasCard.lean, 'card_holds'). Laid BY PROGRAM, IN A SANDBOX (cutbox-door.mjs). By AI agents, Wed Nov 11 2026. No macro, syntax, notation, axiom, sorry.
-/
import Derived.Test.YtclopkpfeofjmaaDoorRows
import GoSem.ClaimSeven
namespace Go.Proofs.YtclopkpfeofjmaaDoor
namespace Rows

/-- THE TIED CARD OF 'brackenlaw.UpStates'. -/
def upStatesCard : Claim7 := { stood := { row := upStatesRow, standIns := [], harness := (true, "daff89931dde366f28f4305d530c887c2a187b9015cef3b7e3f2f2c0704a1173"), looks := false }, kinds := [], alts := [], laidByText := true, laidKinds := [.data, .pinned], laidTests := true, laidLooks := .later }
def UpStatesCardSaid : Prop := Claim7.holds Tryd.pinned (.plain (OpenSpec.ofChange upStatesSpec)) upStatesCard

/-- THE TIED CARD OF 'brackenkeep.UpSteps'. -/
def upStepsCard : Claim7 := { stood := { row := upStepsRow, standIns := [], harness := (true, "daff89931dde366f28f4305d530c887c2a187b9015cef3b7e3f2f2c0704a1173"), looks := false }, kinds := [], alts := [], laidByText := true, laidKinds := [.data, .pinned], laidTests := true, laidLooks := .later }
def UpStepsCardSaid : Prop := Claim7.holds Tryd.pinned (.plain (OpenSpec.ofChange upStepsSpec)) upStepsCard

/-- THE TIED CARD OF 'brackenkeep.UpWires'. -/
def upWiresCard : Claim7 := { stood := { row := upWiresRow, standIns := [], harness := (true, "daff89931dde366f28f4305d530c887c2a187b9015cef3b7e3f2f2c0704a1173"), looks := false }, kinds := [], alts := [], laidByText := true, laidKinds := [.data, .pinned], laidTests := true, laidLooks := .later }
def UpWiresCardSaid : Prop := Claim7.holds Tryd.pinned (.plain (OpenSpec.ofChange upWiresSpec)) upWiresCard

/-- THE TIED CARD OF 'brackenkeep.UpDown'. -/
def upDownCard : Claim7 := { stood := { row := upDownRow, standIns := [], harness := (true, "daff89931dde366f28f4305d530c887c2a187b9015cef3b7e3f2f2c0704a1173"), looks := false }, kinds := [], alts := [], laidByText := true, laidKinds := [.data, .pinned], laidTests := true, laidLooks := .later }
def UpDownCardSaid : Prop := Claim7.holds Tryd.pinned (.plain (OpenSpec.ofChange upDownSpec)) upDownCard

/-- THE TIED CARD OF 'brackenkeep.UpLost'. -/
def upLostCard : Claim7 := { stood := { row := upLostRow, standIns := [], harness := (true, "daff89931dde366f28f4305d530c887c2a187b9015cef3b7e3f2f2c0704a1173"), looks := false }, kinds := [], alts := [], laidByText := true, laidKinds := [.data, .pinned], laidTests := true, laidLooks := .later }
def UpLostCardSaid : Prop := Claim7.holds Tryd.pinned (.plain (OpenSpec.ofChange upLostSpec)) upLostCard

/-- THE TIED CARD OF 'brackenkeep.UpKeeps'. -/
def upKeepsCard : Claim7 := { stood := { row := upKeepsRow, standIns := [], harness := (true, "daff89931dde366f28f4305d530c887c2a187b9015cef3b7e3f2f2c0704a1173"), looks := false }, kinds := [], alts := [], laidByText := true, laidKinds := [.data, .pinned], laidTests := true, laidLooks := .later }
def UpKeepsCardSaid : Prop := Claim7.holds Tryd.pinned (.plain (OpenSpec.ofChange upKeepsSpec)) upKeepsCard

/-- THE TIED CARD OF 'brackenkeep.UpRound'. -/
def upRoundCard : Claim7 := { stood := { row := upRoundRow, standIns := [], harness := (true, "daff89931dde366f28f4305d530c887c2a187b9015cef3b7e3f2f2c0704a1173"), looks := false }, kinds := [], alts := [], laidByText := true, laidKinds := [.data, .pinned], laidTests := true, laidLooks := .later }
def UpRoundCardSaid : Prop := Claim7.holds Tryd.pinned (.plain (OpenSpec.ofChange upRoundSpec)) upRoundCard

/-- THE SECOND FORM's CARD OF 'brackenlaw.UpStates'. -/
def upStatesUptoCard : Claim7 := { stood := { row := upStatesUptoRow, standIns := [], harness := (true, "daff89931dde366f28f4305d530c887c2a187b9015cef3b7e3f2f2c0704a1173"), looks := false }, kinds := [], alts := [], laidByText := true, laidKinds := [.data, .pinned], laidTests := true, laidLooks := .later }
def UpStatesUptoCardSaid : Prop := Claim7.holds Tryd.pinned (.plain (OpenSpec.upto upStatesSpec)) upStatesUptoCard

/-- THE SECOND FORM's CARD OF 'brackenkeep.UpSteps'. -/
def upStepsUptoCard : Claim7 := { stood := { row := upStepsUptoRow, standIns := [], harness := (true, "daff89931dde366f28f4305d530c887c2a187b9015cef3b7e3f2f2c0704a1173"), looks := false }, kinds := [], alts := [], laidByText := true, laidKinds := [.data, .pinned], laidTests := true, laidLooks := .later }
def UpStepsUptoCardSaid : Prop := Claim7.holds Tryd.pinned (.plain (OpenSpec.upto upStepsSpec)) upStepsUptoCard

/-- THE SECOND FORM's CARD OF 'brackenkeep.UpWires'. -/
def upWiresUptoCard : Claim7 := { stood := { row := upWiresUptoRow, standIns := [], harness := (true, "daff89931dde366f28f4305d530c887c2a187b9015cef3b7e3f2f2c0704a1173"), looks := false }, kinds := [], alts := [], laidByText := true, laidKinds := [.data, .pinned], laidTests := true, laidLooks := .later }
def UpWiresUptoCardSaid : Prop := Claim7.holds Tryd.pinned (.plain (OpenSpec.upto upWiresSpec)) upWiresUptoCard

/-- THE SECOND FORM's CARD OF 'brackenkeep.UpDown'. -/
def upDownUptoCard : Claim7 := { stood := { row := upDownUptoRow, standIns := [], harness := (true, "daff89931dde366f28f4305d530c887c2a187b9015cef3b7e3f2f2c0704a1173"), looks := false }, kinds := [], alts := [], laidByText := true, laidKinds := [.data, .pinned], laidTests := true, laidLooks := .later }
def UpDownUptoCardSaid : Prop := Claim7.holds Tryd.pinned (.plain (OpenSpec.upto upDownSpec)) upDownUptoCard

/-- THE SECOND FORM's CARD OF 'brackenkeep.UpLost'. -/
def upLostUptoCard : Claim7 := { stood := { row := upLostUptoRow, standIns := [], harness := (true, "daff89931dde366f28f4305d530c887c2a187b9015cef3b7e3f2f2c0704a1173"), looks := false }, kinds := [], alts := [], laidByText := true, laidKinds := [.data, .pinned], laidTests := true, laidLooks := .later }
def UpLostUptoCardSaid : Prop := Claim7.holds Tryd.pinned (.plain (OpenSpec.upto upLostSpec)) upLostUptoCard

/-- THE SECOND FORM's CARD OF 'brackenkeep.UpKeeps'. -/
def upKeepsUptoCard : Claim7 := { stood := { row := upKeepsUptoRow, standIns := [], harness := (true, "daff89931dde366f28f4305d530c887c2a187b9015cef3b7e3f2f2c0704a1173"), looks := false }, kinds := [], alts := [], laidByText := true, laidKinds := [.data, .pinned], laidTests := true, laidLooks := .later }
def UpKeepsUptoCardSaid : Prop := Claim7.holds Tryd.pinned (.plain (OpenSpec.upto upKeepsSpec)) upKeepsUptoCard

/-- THE SECOND FORM's CARD OF 'brackenkeep.UpRound'. -/
def upRoundUptoCard : Claim7 := { stood := { row := upRoundUptoRow, standIns := [], harness := (true, "daff89931dde366f28f4305d530c887c2a187b9015cef3b7e3f2f2c0704a1173"), looks := false }, kinds := [], alts := [], laidByText := true, laidKinds := [.data, .pinned], laidTests := true, laidLooks := .later }
def UpRoundUptoCardSaid : Prop := Claim7.holds Tryd.pinned (.plain (OpenSpec.upto upRoundSpec)) upRoundUptoCard
end Rows
end Go.Proofs.YtclopkpfeofjmaaDoor
