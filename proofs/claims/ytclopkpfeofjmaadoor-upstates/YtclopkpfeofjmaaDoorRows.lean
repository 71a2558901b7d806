/-
  NARROWER THAN 'FOR EVERY INPUT', by the rows' own cells (each row's printed sentence says how): UpStates: laid · UpSteps: laid · UpWires: laid · UpDown: laid · UpLost: laid · UpKeeps: laid · UpRound: laid.
  DERIVED. THE GIVEN ROWS OF THIS SEAT. 7 by the template 'for every input the law returns true; each argument reads behind the call as it read before'; 0 by the template 'total and deterministic' (their statements: YtclopkpfeofjmaaDoorTotals.lean).
  GIVEN WITH THE SEED: the statements are not yours to turn. If you find one false, say at which input.
  Laid BY PROGRAM, IN A SANDBOX (cutbox-rows.mjs): the forced cells as the released guide's own fill.sh prints them over the translation b8793a7be16f1b03… (all of the seat's roots in one cut). By AI agents, Wed Nov 11 2026. No macro, syntax, notation, axiom, sorry.
-/
import Derived.Test.YtclopkpfeofjmaaDoorChecked
import GoSem.PinnedTables
import GoSem.Claim
import GoSem.ClaimJoined
import GoSem.ClaimMapViews
import Derived.JoinedTies
import Derived.KernelRfl
namespace Go.Proofs.YtclopkpfeofjmaaDoor
/- THE CELL 'sum', in the pinned program and in every row, IS THE sha256 OF THE DUMP (.gsa) THAT YtclopkpfeofjmaaDoorProg.lean LOADS. Nothing in Lean hashes anything: it is a label: what it is worth is what the hold of that sum in a sandbox is worth. -/
noncomputable def Tryd.pinned : Pinned := { name := "ytclopkpfeofjmaadoor", sum := "b8793a7be16f1b03d7a31d3b01d58ff26545930ff239d5b7f78f4c7c20e175da", checked := Tryd.checked }
namespace Rows
def none {H : Type} : Left H := { results := [], args := [] }

/- WHAT THE LISTED PACKAGE-LEVEL VARIABLES READ AS WHEN THE CALL BEGINS. Each datum BY PROGRAM (the guide's laid-datum.mjs) off the statement by which the dump's own 'gosem.cut.vars' lays the variable. In a bare row this is a premise. The card (YtclopkpfeofjmaaDoorCards.lean) ties it to the program's text. -/
def laid_unicode_utf8_acceptRanges {H : Type} : DataW H := .agg [.agg [.lit (.int .u8 128), .lit (.int .u8 191)], .agg [.lit (.int .u8 160), .lit (.int .u8 191)], .agg [.lit (.int .u8 128), .lit (.int .u8 159)], .agg [.lit (.int .u8 144), .lit (.int .u8 191)], .agg [.lit (.int .u8 128), .lit (.int .u8 143)], .agg [.lit (.int .u8 0), .lit (.int .u8 0)], .agg [.lit (.int .u8 0), .lit (.int .u8 0)], .agg [.lit (.int .u8 0), .lit (.int .u8 0)], .agg [.lit (.int .u8 0), .lit (.int .u8 0)], .agg [.lit (.int .u8 0), .lit (.int .u8 0)], .agg [.lit (.int .u8 0), .lit (.int .u8 0)], .agg [.lit (.int .u8 0), .lit (.int .u8 0)], .agg [.lit (.int .u8 0), .lit (.int .u8 0)], .agg [.lit (.int .u8 0), .lit (.int .u8 0)], .agg [.lit (.int .u8 0), .lit (.int .u8 0)], .agg [.lit (.int .u8 0), .lit (.int .u8 0)]]
/-- One of Go's own tables, pinned by name: the form's constant. -/
def laid_unicode_utf8_first : DataW Unit := Go.Pinned.utf8First

/-- 'brackenlaw.UpStates': WHATEVER THE INPUT: true; the input reads as it did. -/
def upStatesSpec : ChangeSpec := { name := "upStates", fn := fun _ => fun
  | [d1, d2, d3] => { results := [.lit (.bool true)], args := [d1, d2, d3] }
  | _ => none }
def upStatesRow : OpenClaim := { program := "ytclopkpfeofjmaadoor", sum := "b8793a7be16f1b03d7a31d3b01d58ff26545930ff239d5b7f78f4c7c20e175da", func := "bracken/brackenlaw.UpStates", spec := "upStates", unfollowed := true, recurses := true, named := ["unicode/utf8.first", "unicode/utf8.acceptRanges"], apart := false, laid := [("unicode/utf8.acceptRanges", laid_unicode_utf8_acceptRanges), ("unicode/utf8.first", laid_unicode_utf8_first)] }
def UpStatesSaid : Prop := upStatesRow.holds Tryd.pinned (OpenSpec.ofChange upStatesSpec)

/-- ITS FALSE NEIGHBOUR: 'it returns false'. Refute it at one input. -/
def upStatesWrong : ChangeSpec := { name := "upStates", fn := fun _ => fun
  | [d1, d2, d3] => { results := [.lit (.bool false)], args := [d1, d2, d3] }
  | _ => none }
def UpStatesWrongFalsely : Prop := upStatesRow.holds Tryd.pinned (OpenSpec.ofChange upStatesWrong)

/-- 'brackenkeep.UpSteps': WHATEVER THE INPUT: true; the input reads as it did. -/
def upStepsSpec : ChangeSpec := { name := "upSteps", fn := fun _ => fun
  | [d] => { results := [.lit (.bool true)], args := [d] }
  | _ => none }
def upStepsRow : OpenClaim := { program := "ytclopkpfeofjmaadoor", sum := "b8793a7be16f1b03d7a31d3b01d58ff26545930ff239d5b7f78f4c7c20e175da", func := "bracken/brackenkeep.UpSteps", spec := "upSteps", unfollowed := true, recurses := true, named := ["unicode/utf8.first", "unicode/utf8.acceptRanges"], apart := false, laid := [("unicode/utf8.acceptRanges", laid_unicode_utf8_acceptRanges), ("unicode/utf8.first", laid_unicode_utf8_first)] }
def UpStepsSaid : Prop := upStepsRow.holds Tryd.pinned (OpenSpec.ofChange upStepsSpec)

/-- ITS FALSE NEIGHBOUR: 'it returns false'. Refute it at one input. -/
def upStepsWrong : ChangeSpec := { name := "upSteps", fn := fun _ => fun
  | [d] => { results := [.lit (.bool false)], args := [d] }
  | _ => none }
def UpStepsWrongFalsely : Prop := upStepsRow.holds Tryd.pinned (OpenSpec.ofChange upStepsWrong)

/-- 'brackenkeep.UpWires': WHATEVER THE INPUT: true; the input reads as it did. -/
def upWiresSpec : ChangeSpec := { name := "upWires", fn := fun _ => fun
  | [d1, d2, d3] => { results := [.lit (.bool true)], args := [d1, d2, d3] }
  | _ => none }
def upWiresRow : OpenClaim := { program := "ytclopkpfeofjmaadoor", sum := "b8793a7be16f1b03d7a31d3b01d58ff26545930ff239d5b7f78f4c7c20e175da", func := "bracken/brackenkeep.UpWires", spec := "upWires", unfollowed := true, recurses := true, named := ["unicode/utf8.first", "unicode/utf8.acceptRanges"], apart := false, laid := [("unicode/utf8.acceptRanges", laid_unicode_utf8_acceptRanges), ("unicode/utf8.first", laid_unicode_utf8_first)] }
def UpWiresSaid : Prop := upWiresRow.holds Tryd.pinned (OpenSpec.ofChange upWiresSpec)

/-- ITS FALSE NEIGHBOUR: 'it returns false'. Refute it at one input. -/
def upWiresWrong : ChangeSpec := { name := "upWires", fn := fun _ => fun
  | [d1, d2, d3] => { results := [.lit (.bool false)], args := [d1, d2, d3] }
  | _ => none }
def UpWiresWrongFalsely : Prop := upWiresRow.holds Tryd.pinned (OpenSpec.ofChange upWiresWrong)

/-- 'brackenkeep.UpDown': WHATEVER THE INPUT: true; the input reads as it did. -/
def upDownSpec : ChangeSpec := { name := "upDown", fn := fun _ => fun
  | [d1, d2] => { results := [.lit (.bool true)], args := [d1, d2] }
  | _ => none }
def upDownRow : OpenClaim := { program := "ytclopkpfeofjmaadoor", sum := "b8793a7be16f1b03d7a31d3b01d58ff26545930ff239d5b7f78f4c7c20e175da", func := "bracken/brackenkeep.UpDown", spec := "upDown", unfollowed := true, recurses := true, named := ["unicode/utf8.first", "unicode/utf8.acceptRanges"], apart := false, laid := [("unicode/utf8.acceptRanges", laid_unicode_utf8_acceptRanges), ("unicode/utf8.first", laid_unicode_utf8_first)] }
def UpDownSaid : Prop := upDownRow.holds Tryd.pinned (OpenSpec.ofChange upDownSpec)

/-- ITS FALSE NEIGHBOUR: 'it returns false'. Refute it at one input. -/
def upDownWrong : ChangeSpec := { name := "upDown", fn := fun _ => fun
  | [d1, d2] => { results := [.lit (.bool false)], args := [d1, d2] }
  | _ => none }
def UpDownWrongFalsely : Prop := upDownRow.holds Tryd.pinned (OpenSpec.ofChange upDownWrong)

/-- 'brackenkeep.UpLost': WHATEVER THE INPUT: true; the input reads as it did. -/
def upLostSpec : ChangeSpec := { name := "upLost", fn := fun _ => fun
  | [d1, d2] => { results := [.lit (.bool true)], args := [d1, d2] }
  | _ => none }
def upLostRow : OpenClaim := { program := "ytclopkpfeofjmaadoor", sum := "b8793a7be16f1b03d7a31d3b01d58ff26545930ff239d5b7f78f4c7c20e175da", func := "bracken/brackenkeep.UpLost", spec := "upLost", unfollowed := true, recurses := true, named := ["unicode/utf8.first", "unicode/utf8.acceptRanges"], apart := false, laid := [("unicode/utf8.acceptRanges", laid_unicode_utf8_acceptRanges), ("unicode/utf8.first", laid_unicode_utf8_first)] }
def UpLostSaid : Prop := upLostRow.holds Tryd.pinned (OpenSpec.ofChange upLostSpec)

/-- ITS FALSE NEIGHBOUR: 'it returns false'. Refute it at one input. -/
def upLostWrong : ChangeSpec := { name := "upLost", fn := fun _ => fun
  | [d1, d2] => { results := [.lit (.bool false)], args := [d1, d2] }
  | _ => none }
def UpLostWrongFalsely : Prop := upLostRow.holds Tryd.pinned (OpenSpec.ofChange upLostWrong)

/-- 'brackenkeep.UpKeeps': WHATEVER THE INPUT: true; the input reads as it did. -/
def upKeepsSpec : ChangeSpec := { name := "upKeeps", fn := fun _ => fun
  | [d1, d2, d3] => { results := [.lit (.bool true)], args := [d1, d2, d3] }
  | _ => none }
def upKeepsRow : OpenClaim := { program := "ytclopkpfeofjmaadoor", sum := "b8793a7be16f1b03d7a31d3b01d58ff26545930ff239d5b7f78f4c7c20e175da", func := "bracken/brackenkeep.UpKeeps", spec := "upKeeps", unfollowed := true, recurses := true, named := ["unicode/utf8.first", "unicode/utf8.acceptRanges"], apart := false, laid := [("unicode/utf8.acceptRanges", laid_unicode_utf8_acceptRanges), ("unicode/utf8.first", laid_unicode_utf8_first)] }
def UpKeepsSaid : Prop := upKeepsRow.holds Tryd.pinned (OpenSpec.ofChange upKeepsSpec)

/-- ITS FALSE NEIGHBOUR: 'it returns false'. Refute it at one input. -/
def upKeepsWrong : ChangeSpec := { name := "upKeeps", fn := fun _ => fun
  | [d1, d2, d3] => { results := [.lit (.bool false)], args := [d1, d2, d3] }
  | _ => none }
def UpKeepsWrongFalsely : Prop := upKeepsRow.holds Tryd.pinned (OpenSpec.ofChange upKeepsWrong)

/-- 'brackenkeep.UpRound': WHATEVER THE INPUT: true; the input reads as it did. -/
def upRoundSpec : ChangeSpec := { name := "upRound", fn := fun _ => fun
  | [d1, d2] => { results := [.lit (.bool true)], args := [d1, d2] }
  | _ => none }
def upRoundRow : OpenClaim := { program := "ytclopkpfeofjmaadoor", sum := "b8793a7be16f1b03d7a31d3b01d58ff26545930ff239d5b7f78f4c7c20e175da", func := "bracken/brackenkeep.UpRound", spec := "upRound", unfollowed := true, recurses := true, named := ["unicode/utf8.first", "unicode/utf8.acceptRanges"], apart := false, laid := [("unicode/utf8.acceptRanges", laid_unicode_utf8_acceptRanges), ("unicode/utf8.first", laid_unicode_utf8_first)] }
def UpRoundSaid : Prop := upRoundRow.holds Tryd.pinned (OpenSpec.ofChange upRoundSpec)

/-- ITS FALSE NEIGHBOUR: 'it returns false'. Refute it at one input. -/
def upRoundWrong : ChangeSpec := { name := "upRound", fn := fun _ => fun
  | [d1, d2] => { results := [.lit (.bool false)], args := [d1, d2] }
  | _ => none }
def UpRoundWrongFalsely : Prop := upRoundRow.holds Tryd.pinned (OpenSpec.ofChange upRoundWrong)

/- THE SECOND FORM. 'bulk': how many values and letters a reading holds, each counted each time it is reached (what is shared counts as often as it is met; a slice's spare places count too). A statement '..UptoSaid' is the law's where the arguments, and the package variables that the reading takes, are together of bulk at most 1048576: NARROWER than '..Said'. Prove '..Said' where nothing that the law and all that it calls make is longer than what came in: it says more and counts as full. Else prove '..UptoSaid'. A law counts once. -/
mutual
def uptoBulk {H : Type} : DataW H → Nat
  | .lit (.string bytes) => bytes.length + 1
  | .lit _ => 1
  | .nil => 1
  | .ptr d => uptoBulk d + 1
  | .slice elems spare => uptoBulkAll elems + uptoBulkAll spare + 1
  | .agg parts => uptoBulkAll parts + 1
  | .iface _ d => uptoBulk d + 1
  | .map entries => uptoBulkEntries entries + 1
  | .held _ => 1
def uptoBulkAll {H : Type} : List (DataW H) → Nat
  | [] => 0
  | d :: r => uptoBulk d + uptoBulkAll r
def uptoBulkEntries {H : Type} : List (Lit × DataW H) → Nat
  | [] => 0
  | x :: r => uptoBulkEntry x + uptoBulkEntries r
def uptoBulkEntry {H : Type} : Lit × DataW H → Nat
  | (.string bytes, d) => bytes.length + uptoBulk d + 1
  | (_, d) => uptoBulk d + 1
 end
def uptoSmall : (H : Type) → List (DataW H) → Bool := fun _ ds => decide (uptoBulkAll ds ≤ 1048576)
def OpenSpec.upto (s : _root_.Go.ChangeSpec) : _root_.Go.OpenSpec := { _root_.Go.OpenSpec.ofChange s with cond := some uptoSmall }

/-- 'brackenlaw.UpStates', WHERE WHAT IT READS IS OF BULK AT MOST 1048576: true; the input reads as it did. -/
def upStatesUptoRow : OpenClaim := { program := "ytclopkpfeofjmaadoor", sum := "b8793a7be16f1b03d7a31d3b01d58ff26545930ff239d5b7f78f4c7c20e175da", func := "bracken/brackenlaw.UpStates", spec := "upStates", unfollowed := true, recurses := true, named := ["unicode/utf8.first", "unicode/utf8.acceptRanges"], apart := false, laid := [("unicode/utf8.acceptRanges", laid_unicode_utf8_acceptRanges), ("unicode/utf8.first", laid_unicode_utf8_first)], narrowed := true }
def UpStatesUptoSaid : Prop := upStatesUptoRow.holds Tryd.pinned (OpenSpec.upto upStatesSpec)

/-- 'brackenkeep.UpSteps', WHERE WHAT IT READS IS OF BULK AT MOST 1048576: true; the input reads as it did. -/
def upStepsUptoRow : OpenClaim := { program := "ytclopkpfeofjmaadoor", sum := "b8793a7be16f1b03d7a31d3b01d58ff26545930ff239d5b7f78f4c7c20e175da", func := "bracken/brackenkeep.UpSteps", spec := "upSteps", unfollowed := true, recurses := true, named := ["unicode/utf8.first", "unicode/utf8.acceptRanges"], apart := false, laid := [("unicode/utf8.acceptRanges", laid_unicode_utf8_acceptRanges), ("unicode/utf8.first", laid_unicode_utf8_first)], narrowed := true }
def UpStepsUptoSaid : Prop := upStepsUptoRow.holds Tryd.pinned (OpenSpec.upto upStepsSpec)

/-- 'brackenkeep.UpWires', WHERE WHAT IT READS IS OF BULK AT MOST 1048576: true; the input reads as it did. -/
def upWiresUptoRow : OpenClaim := { program := "ytclopkpfeofjmaadoor", sum := "b8793a7be16f1b03d7a31d3b01d58ff26545930ff239d5b7f78f4c7c20e175da", func := "bracken/brackenkeep.UpWires", spec := "upWires", unfollowed := true, recurses := true, named := ["unicode/utf8.first", "unicode/utf8.acceptRanges"], apart := false, laid := [("unicode/utf8.acceptRanges", laid_unicode_utf8_acceptRanges), ("unicode/utf8.first", laid_unicode_utf8_first)], narrowed := true }
def UpWiresUptoSaid : Prop := upWiresUptoRow.holds Tryd.pinned (OpenSpec.upto upWiresSpec)

/-- 'brackenkeep.UpDown', WHERE WHAT IT READS IS OF BULK AT MOST 1048576: true; the input reads as it did. -/
def upDownUptoRow : OpenClaim := { program := "ytclopkpfeofjmaadoor", sum := "b8793a7be16f1b03d7a31d3b01d58ff26545930ff239d5b7f78f4c7c20e175da", func := "bracken/brackenkeep.UpDown", spec := "upDown", unfollowed := true, recurses := true, named := ["unicode/utf8.first", "unicode/utf8.acceptRanges"], apart := false, laid := [("unicode/utf8.acceptRanges", laid_unicode_utf8_acceptRanges), ("unicode/utf8.first", laid_unicode_utf8_first)], narrowed := true }
def UpDownUptoSaid : Prop := upDownUptoRow.holds Tryd.pinned (OpenSpec.upto upDownSpec)

/-- 'brackenkeep.UpLost', WHERE WHAT IT READS IS OF BULK AT MOST 1048576: true; the input reads as it did. -/
def upLostUptoRow : OpenClaim := { program := "ytclopkpfeofjmaadoor", sum := "b8793a7be16f1b03d7a31d3b01d58ff26545930ff239d5b7f78f4c7c20e175da", func := "bracken/brackenkeep.UpLost", spec := "upLost", unfollowed := true, recurses := true, named := ["unicode/utf8.first", "unicode/utf8.acceptRanges"], apart := false, laid := [("unicode/utf8.acceptRanges", laid_unicode_utf8_acceptRanges), ("unicode/utf8.first", laid_unicode_utf8_first)], narrowed := true }
def UpLostUptoSaid : Prop := upLostUptoRow.holds Tryd.pinned (OpenSpec.upto upLostSpec)

/-- 'brackenkeep.UpKeeps', WHERE WHAT IT READS IS OF BULK AT MOST 1048576: true; the input reads as it did. -/
def upKeepsUptoRow : OpenClaim := { program := "ytclopkpfeofjmaadoor", sum := "b8793a7be16f1b03d7a31d3b01d58ff26545930ff239d5b7f78f4c7c20e175da", func := "bracken/brackenkeep.UpKeeps", spec := "upKeeps", unfollowed := true, recurses := true, named := ["unicode/utf8.first", "unicode/utf8.acceptRanges"], apart := false, laid := [("unicode/utf8.acceptRanges", laid_unicode_utf8_acceptRanges), ("unicode/utf8.first", laid_unicode_utf8_first)], narrowed := true }
def UpKeepsUptoSaid : Prop := upKeepsUptoRow.holds Tryd.pinned (OpenSpec.upto upKeepsSpec)

/-- 'brackenkeep.UpRound', WHERE WHAT IT READS IS OF BULK AT MOST 1048576: true; the input reads as it did. -/
def upRoundUptoRow : OpenClaim := { program := "ytclopkpfeofjmaadoor", sum := "b8793a7be16f1b03d7a31d3b01d58ff26545930ff239d5b7f78f4c7c20e175da", func := "bracken/brackenkeep.UpRound", spec := "upRound", unfollowed := true, recurses := true, named := ["unicode/utf8.first", "unicode/utf8.acceptRanges"], apart := false, laid := [("unicode/utf8.acceptRanges", laid_unicode_utf8_acceptRanges), ("unicode/utf8.first", laid_unicode_utf8_first)], narrowed := true }
def UpRoundUptoSaid : Prop := upRoundUptoRow.holds Tryd.pinned (OpenSpec.upto upRoundSpec)

end Rows
end Go.Proofs.YtclopkpfeofjmaaDoor
