/-
  No cell of these rows narrows 'for every input' (looked for: loops, veiled, ifaces, maps, wideKeys, modest, calm, conditions, laid).
  DERIVED. THE GIVEN ROWS OF THIS SEAT. 9 by the template 'for every input the law returns true; each argument reads behind the call as it read before'; 0 by the template 'total and deterministic' (their statements: YtmiidfeckchjoaaTotals.lean).
  GIVEN WITH THE SEED: the statements are not yours to turn. If you find one false, say at which input.
  Laid BY PROGRAM, IN A SANDBOX (cutbox-rows.mjs): the forced cells as the released guide's own fill.sh prints them over the translation aa3816bdf3a3df59… (all of the seat's roots in one cut). By AI agents, Wed Nov 11 2026. No macro, syntax, notation, axiom, sorry.
-/
import Derived.Test.YtmiidfeckchjoaaChecked
import GoSem.Claim
import GoSem.ClaimJoined
import GoSem.ClaimMapViews
import Derived.JoinedTies
import Derived.KernelRfl
namespace Go.Proofs.Ytmiidfeckchjoaa
/- THE CELL 'sum', in the pinned program and in every row, IS THE sha256 OF THE DUMP (.gsa) THAT YtmiidfeckchjoaaProg.lean LOADS. Nothing in Lean hashes anything: it is a label: what it is worth is what the hold of that sum in a sandbox is worth. -/
noncomputable def Try.pinned : Pinned := { name := "ytmiidfeckchjoaa", sum := "aa3816bdf3a3df5984ffaae5bfefb7842899c72ccd07e70f1674fc2d7832624e", checked := Try.checked }
namespace Rows
def none {H : Type} : Left H := { results := [], args := [] }

/-- 'brackenlaw.Names': WHATEVER THE INPUT: true; the input reads as it did. -/
def namesSpec : ChangeSpec := { name := "names", fn := fun _ => fun
  | [] => { results := [.lit (.bool true)], args := [] }
  | _ => none }
def namesRow : OpenClaim := { program := "ytmiidfeckchjoaa", sum := "aa3816bdf3a3df5984ffaae5bfefb7842899c72ccd07e70f1674fc2d7832624e", func := "bracken/brackenlaw.Names", spec := "names", apart := false }
def NamesSaid : Prop := namesRow.holds Try.pinned (OpenSpec.ofChange namesSpec)

/-- ITS FALSE NEIGHBOUR: 'it returns false'. Refute it at one input. -/
def namesWrong : ChangeSpec := { name := "names", fn := fun _ => fun
  | [] => { results := [.lit (.bool false)], args := [] }
  | _ => none }
def NamesWrongFalsely : Prop := namesRow.holds Try.pinned (OpenSpec.ofChange namesWrong)

/-- 'brackenlaw.PrimNumbers': WHATEVER THE INPUT: true; the input reads as it did. -/
def primNumbersSpec : ChangeSpec := { name := "primNumbers", fn := fun _ => fun
  | [d] => { results := [.lit (.bool true)], args := [d] }
  | _ => none }
def primNumbersRow : OpenClaim := { program := "ytmiidfeckchjoaa", sum := "aa3816bdf3a3df5984ffaae5bfefb7842899c72ccd07e70f1674fc2d7832624e", func := "bracken/brackenlaw.PrimNumbers", spec := "primNumbers", recurses := true, apart := false }
def PrimNumbersSaid : Prop := primNumbersRow.holds Try.pinned (OpenSpec.ofChange primNumbersSpec)

/-- ITS FALSE NEIGHBOUR: 'it returns false'. Refute it at one input. -/
def primNumbersWrong : ChangeSpec := { name := "primNumbers", fn := fun _ => fun
  | [d] => { results := [.lit (.bool false)], args := [d] }
  | _ => none }
def PrimNumbersWrongFalsely : Prop := primNumbersRow.holds Try.pinned (OpenSpec.ofChange primNumbersWrong)

/-- 'brackenlaw.PrimReads': WHATEVER THE INPUT: true; the input reads as it did. -/
def primReadsSpec : ChangeSpec := { name := "primReads", fn := fun _ => fun
  | [d] => { results := [.lit (.bool true)], args := [d] }
  | _ => none }
def primReadsRow : OpenClaim := { program := "ytmiidfeckchjoaa", sum := "aa3816bdf3a3df5984ffaae5bfefb7842899c72ccd07e70f1674fc2d7832624e", func := "bracken/brackenlaw.PrimReads", spec := "primReads", apart := false }
def PrimReadsSaid : Prop := primReadsRow.holds Try.pinned (OpenSpec.ofChange primReadsSpec)

/-- ITS FALSE NEIGHBOUR: 'it returns false'. Refute it at one input. -/
def primReadsWrong : ChangeSpec := { name := "primReads", fn := fun _ => fun
  | [d] => { results := [.lit (.bool false)], args := [d] }
  | _ => none }
def PrimReadsWrongFalsely : Prop := primReadsRow.holds Try.pinned (OpenSpec.ofChange primReadsWrong)

/-- 'brackenlaw.PrimZigs': WHATEVER THE INPUT: true; the input reads as it did. -/
def primZigsSpec : ChangeSpec := { name := "primZigs", fn := fun _ => fun
  | [d1, d2] => { results := [.lit (.bool true)], args := [d1, d2] }
  | _ => none }
def primZigsRow : OpenClaim := { program := "ytmiidfeckchjoaa", sum := "aa3816bdf3a3df5984ffaae5bfefb7842899c72ccd07e70f1674fc2d7832624e", func := "bracken/brackenlaw.PrimZigs", spec := "primZigs", apart := false }
def PrimZigsSaid : Prop := primZigsRow.holds Try.pinned (OpenSpec.ofChange primZigsSpec)

/-- ITS FALSE NEIGHBOUR: 'it returns false'. Refute it at one input. -/
def primZigsWrong : ChangeSpec := { name := "primZigs", fn := fun _ => fun
  | [d1, d2] => { results := [.lit (.bool false)], args := [d1, d2] }
  | _ => none }
def PrimZigsWrongFalsely : Prop := primZigsRow.holds Try.pinned (OpenSpec.ofChange primZigsWrong)

/-- 'brackenkeep.NumberBack': WHATEVER THE INPUT: true; the input reads as it did. -/
def numberBackSpec : ChangeSpec := { name := "numberBack", fn := fun _ => fun
  | [d1, d2] => { results := [.lit (.bool true)], args := [d1, d2] }
  | _ => none }
def numberBackRow : OpenClaim := { program := "ytmiidfeckchjoaa", sum := "aa3816bdf3a3df5984ffaae5bfefb7842899c72ccd07e70f1674fc2d7832624e", func := "bracken/brackenkeep.NumberBack", spec := "numberBack", apart := false }
def NumberBackSaid : Prop := numberBackRow.holds Try.pinned (OpenSpec.ofChange numberBackSpec)

/-- ITS FALSE NEIGHBOUR: 'it returns false'. Refute it at one input. -/
def numberBackWrong : ChangeSpec := { name := "numberBack", fn := fun _ => fun
  | [d1, d2] => { results := [.lit (.bool false)], args := [d1, d2] }
  | _ => none }
def NumberBackWrongFalsely : Prop := numberBackRow.holds Try.pinned (OpenSpec.ofChange numberBackWrong)

/-- 'brackenkeep.NumberOne': WHATEVER THE INPUT: true; the input reads as it did. -/
def numberOneSpec : ChangeSpec := { name := "numberOne", fn := fun _ => fun
  | [d] => { results := [.lit (.bool true)], args := [d] }
  | _ => none }
def numberOneRow : OpenClaim := { program := "ytmiidfeckchjoaa", sum := "aa3816bdf3a3df5984ffaae5bfefb7842899c72ccd07e70f1674fc2d7832624e", func := "bracken/brackenkeep.NumberOne", spec := "numberOne", apart := false }
def NumberOneSaid : Prop := numberOneRow.holds Try.pinned (OpenSpec.ofChange numberOneSpec)

/-- ITS FALSE NEIGHBOUR: 'it returns false'. Refute it at one input. -/
def numberOneWrong : ChangeSpec := { name := "numberOne", fn := fun _ => fun
  | [d] => { results := [.lit (.bool false)], args := [d] }
  | _ => none }
def NumberOneWrongFalsely : Prop := numberOneRow.holds Try.pinned (OpenSpec.ofChange numberOneWrong)

/-- 'brackenkeep.NumberOrder': WHATEVER THE INPUT: true; the input reads as it did. -/
def numberOrderSpec : ChangeSpec := { name := "numberOrder", fn := fun _ => fun
  | [d1, d2] => { results := [.lit (.bool true)], args := [d1, d2] }
  | _ => none }
def numberOrderRow : OpenClaim := { program := "ytmiidfeckchjoaa", sum := "aa3816bdf3a3df5984ffaae5bfefb7842899c72ccd07e70f1674fc2d7832624e", func := "bracken/brackenkeep.NumberOrder", spec := "numberOrder", apart := false }
def NumberOrderSaid : Prop := numberOrderRow.holds Try.pinned (OpenSpec.ofChange numberOrderSpec)

/-- ITS FALSE NEIGHBOUR: 'it returns false'. Refute it at one input. -/
def numberOrderWrong : ChangeSpec := { name := "numberOrder", fn := fun _ => fun
  | [d1, d2] => { results := [.lit (.bool false)], args := [d1, d2] }
  | _ => none }
def NumberOrderWrongFalsely : Prop := numberOrderRow.holds Try.pinned (OpenSpec.ofChange numberOrderWrong)

/-- 'brackenkeep.ZigBack': WHATEVER THE INPUT: true; the input reads as it did. -/
def zigBackSpec : ChangeSpec := { name := "zigBack", fn := fun _ => fun
  | [d1, d2] => { results := [.lit (.bool true)], args := [d1, d2] }
  | _ => none }
def zigBackRow : OpenClaim := { program := "ytmiidfeckchjoaa", sum := "aa3816bdf3a3df5984ffaae5bfefb7842899c72ccd07e70f1674fc2d7832624e", func := "bracken/brackenkeep.ZigBack", spec := "zigBack", apart := false }
def ZigBackSaid : Prop := zigBackRow.holds Try.pinned (OpenSpec.ofChange zigBackSpec)

/-- ITS FALSE NEIGHBOUR: 'it returns false'. Refute it at one input. -/
def zigBackWrong : ChangeSpec := { name := "zigBack", fn := fun _ => fun
  | [d1, d2] => { results := [.lit (.bool false)], args := [d1, d2] }
  | _ => none }
def ZigBackWrongFalsely : Prop := zigBackRow.holds Try.pinned (OpenSpec.ofChange zigBackWrong)

/-- 'brackenkeep.NumberSizes': WHATEVER THE INPUT: true; the input reads as it did. -/
def numberSizesSpec : ChangeSpec := { name := "numberSizes", fn := fun _ => fun
  | [d] => { results := [.lit (.bool true)], args := [d] }
  | _ => none }
def numberSizesRow : OpenClaim := { program := "ytmiidfeckchjoaa", sum := "aa3816bdf3a3df5984ffaae5bfefb7842899c72ccd07e70f1674fc2d7832624e", func := "bracken/brackenkeep.NumberSizes", spec := "numberSizes", apart := false }
def NumberSizesSaid : Prop := numberSizesRow.holds Try.pinned (OpenSpec.ofChange numberSizesSpec)

/-- ITS FALSE NEIGHBOUR: 'it returns false'. Refute it at one input. -/
def numberSizesWrong : ChangeSpec := { name := "numberSizes", fn := fun _ => fun
  | [d] => { results := [.lit (.bool false)], args := [d] }
  | _ => none }
def NumberSizesWrongFalsely : Prop := numberSizesRow.holds Try.pinned (OpenSpec.ofChange numberSizesWrong)

/- THE SECOND FORM. 'bulk': how many values and letters a reading holds, each counted each time it is reached (what is shared counts as often as it is met; a slice's spare places count too). A statement '..UptoSaid' is the law's where the arguments, and the package variables that the reading takes, are together of bulk at most 1048576: NARROWER than '..Said'. Prove '..Said' where nothing that the law and all that it calls make is longer than what came in: it says more and counts as full. Else prove '..UptoSaid'. A law counts once. -/
mutual
def uptoBulk {H : Type} : DataW H → Nat
  | .lit (.string bytes) => bytes.length + 1
  | .lit _ => 1
  | .nil => 1
  | .ptr d => uptoBulk d + 1
  | .slice elems spare => uptoBulkAll elems + uptoBulkAll spare + 1
  | .agg parts => uptoBulkAll parts + 1
  | .iface _ d => uptoBulk d + 1
  | .map entries => uptoBulkEntries entries + 1
  | .held _ => 1
def uptoBulkAll {H : Type} : List (DataW H) → Nat
  | [] => 0
  | d :: r => uptoBulk d + uptoBulkAll r
def uptoBulkEntries {H : Type} : List (Lit × DataW H) → Nat
  | [] => 0
  | x :: r => uptoBulkEntry x + uptoBulkEntries r
def uptoBulkEntry {H : Type} : Lit × DataW H → Nat
  | (.string bytes, d) => bytes.length + uptoBulk d + 1
  | (_, d) => uptoBulk d + 1
 end
def uptoSmall : (H : Type) → List (DataW H) → Bool := fun _ ds => decide (uptoBulkAll ds ≤ 1048576)
def OpenSpec.upto (s : _root_.Go.ChangeSpec) : _root_.Go.OpenSpec := { _root_.Go.OpenSpec.ofChange s with cond := some uptoSmall }

/-- 'brackenlaw.Names', WHERE WHAT IT READS IS OF BULK AT MOST 1048576: true; the input reads as it did. -/
def namesUptoRow : OpenClaim := { program := "ytmiidfeckchjoaa", sum := "aa3816bdf3a3df5984ffaae5bfefb7842899c72ccd07e70f1674fc2d7832624e", func := "bracken/brackenlaw.Names", spec := "names", apart := false, narrowed := true }
def NamesUptoSaid : Prop := namesUptoRow.holds Try.pinned (OpenSpec.upto namesSpec)

/-- 'brackenlaw.PrimNumbers', WHERE WHAT IT READS IS OF BULK AT MOST 1048576: true; the input reads as it did. -/
def primNumbersUptoRow : OpenClaim := { program := "ytmiidfeckchjoaa", sum := "aa3816bdf3a3df5984ffaae5bfefb7842899c72ccd07e70f1674fc2d7832624e", func := "bracken/brackenlaw.PrimNumbers", spec := "primNumbers", recurses := true, apart := false, narrowed := true }
def PrimNumbersUptoSaid : Prop := primNumbersUptoRow.holds Try.pinned (OpenSpec.upto primNumbersSpec)

/-- 'brackenlaw.PrimReads', WHERE WHAT IT READS IS OF BULK AT MOST 1048576: true; the input reads as it did. -/
def primReadsUptoRow : OpenClaim := { program := "ytmiidfeckchjoaa", sum := "aa3816bdf3a3df5984ffaae5bfefb7842899c72ccd07e70f1674fc2d7832624e", func := "bracken/brackenlaw.PrimReads", spec := "primReads", apart := false, narrowed := true }
def PrimReadsUptoSaid : Prop := primReadsUptoRow.holds Try.pinned (OpenSpec.upto primReadsSpec)

/-- 'brackenlaw.PrimZigs', WHERE WHAT IT READS IS OF BULK AT MOST 1048576: true; the input reads as it did. -/
def primZigsUptoRow : OpenClaim := { program := "ytmiidfeckchjoaa", sum := "aa3816bdf3a3df5984ffaae5bfefb7842899c72ccd07e70f1674fc2d7832624e", func := "bracken/brackenlaw.PrimZigs", spec := "primZigs", apart := false, narrowed := true }
def PrimZigsUptoSaid : Prop := primZigsUptoRow.holds Try.pinned (OpenSpec.upto primZigsSpec)

/-- 'brackenkeep.NumberBack', WHERE WHAT IT READS IS OF BULK AT MOST 1048576: true; the input reads as it did. -/
def numberBackUptoRow : OpenClaim := { program := "ytmiidfeckchjoaa", sum := "aa3816bdf3a3df5984ffaae5bfefb7842899c72ccd07e70f1674fc2d7832624e", func := "bracken/brackenkeep.NumberBack", spec := "numberBack", apart := false, narrowed := true }
def NumberBackUptoSaid : Prop := numberBackUptoRow.holds Try.pinned (OpenSpec.upto numberBackSpec)

/-- 'brackenkeep.NumberOne', WHERE WHAT IT READS IS OF BULK AT MOST 1048576: true; the input reads as it did. -/
def numberOneUptoRow : OpenClaim := { program := "ytmiidfeckchjoaa", sum := "aa3816bdf3a3df5984ffaae5bfefb7842899c72ccd07e70f1674fc2d7832624e", func := "bracken/brackenkeep.NumberOne", spec := "numberOne", apart := false, narrowed := true }
def NumberOneUptoSaid : Prop := numberOneUptoRow.holds Try.pinned (OpenSpec.upto numberOneSpec)

/-- 'brackenkeep.NumberOrder', WHERE WHAT IT READS IS OF BULK AT MOST 1048576: true; the input reads as it did. -/
def numberOrderUptoRow : OpenClaim := { program := "ytmiidfeckchjoaa", sum := "aa3816bdf3a3df5984ffaae5bfefb7842899c72ccd07e70f1674fc2d7832624e", func := "bracken/brackenkeep.NumberOrder", spec := "numberOrder", apart := false, narrowed := true }
def NumberOrderUptoSaid : Prop := numberOrderUptoRow.holds Try.pinned (OpenSpec.upto numberOrderSpec)

/-- 'brackenkeep.ZigBack', WHERE WHAT IT READS IS OF BULK AT MOST 1048576: true; the input reads as it did. -/
def zigBackUptoRow : OpenClaim := { program := "ytmiidfeckchjoaa", sum := "aa3816bdf3a3df5984ffaae5bfefb7842899c72ccd07e70f1674fc2d7832624e", func := "bracken/brackenkeep.ZigBack", spec := "zigBack", apart := false, narrowed := true }
def ZigBackUptoSaid : Prop := zigBackUptoRow.holds Try.pinned (OpenSpec.upto zigBackSpec)

/-- 'brackenkeep.NumberSizes', WHERE WHAT IT READS IS OF BULK AT MOST 1048576: true; the input reads as it did. -/
def numberSizesUptoRow : OpenClaim := { program := "ytmiidfeckchjoaa", sum := "aa3816bdf3a3df5984ffaae5bfefb7842899c72ccd07e70f1674fc2d7832624e", func := "bracken/brackenkeep.NumberSizes", spec := "numberSizes", apart := false, narrowed := true }
def NumberSizesUptoSaid : Prop := numberSizesUptoRow.holds Try.pinned (OpenSpec.upto numberSizesSpec)

end Rows
end Go.Proofs.Ytmiidfeckchjoaa
