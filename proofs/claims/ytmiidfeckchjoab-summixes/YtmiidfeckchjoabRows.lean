/-
  No cell of these rows narrows 'for every input' (looked for: loops, veiled, ifaces, maps, wideKeys, modest, calm, conditions, laid).
  DERIVED. THE GIVEN ROWS OF THIS SEAT. 5 by the template 'for every input the law returns true; each argument reads behind the call as it read before'; 0 by the template 'total and deterministic' (their statements: YtmiidfeckchjoabTotals.lean).
  GIVEN WITH THE SEED: the statements are not yours to turn. If you find one false, say at which input.
  Laid BY PROGRAM, IN A SANDBOX (cutbox-rows.mjs): the forced cells as the released guide's own fill.sh prints them over the translation a22ace790c72044c… (all of the seat's roots in one cut). By AI agents, Wed Nov 11 2026. No macro, syntax, notation, axiom, sorry.
-/
import Derived.Test.YtmiidfeckchjoabChecked
import GoSem.Claim
import GoSem.ClaimJoined
import GoSem.ClaimMapViews
import Derived.JoinedTies
import Derived.KernelRfl
namespace Go.Proofs.Ytmiidfeckchjoab
/- THE CELL 'sum', in the pinned program and in every row, IS THE sha256 OF THE DUMP (.gsa) THAT YtmiidfeckchjoabProg.lean LOADS. Nothing in Lean hashes anything: it is a label: what it is worth is what the hold of that sum in a sandbox is worth. -/
noncomputable def Try.pinned : Pinned := { name := "ytmiidfeckchjoab", sum := "a22ace790c72044c5cd19f6e7e24b5e4df3779a6c76b231b933eefaa831f9b0e", checked := Try.checked }
namespace Rows
def none {H : Type} : Left H := { results := [], args := [] }

/-- 'brackenkeep.ZigOrder': WHATEVER THE INPUT: true; the input reads as it did. -/
def zigOrderSpec : ChangeSpec := { name := "zigOrder", fn := fun _ => fun
  | [d1, d2] => { results := [.lit (.bool true)], args := [d1, d2] }
  | _ => none }
def zigOrderRow : OpenClaim := { program := "ytmiidfeckchjoab", sum := "a22ace790c72044c5cd19f6e7e24b5e4df3779a6c76b231b933eefaa831f9b0e", func := "bracken/brackenkeep.ZigOrder", spec := "zigOrder", apart := false }
def ZigOrderSaid : Prop := zigOrderRow.holds Try.pinned (OpenSpec.ofChange zigOrderSpec)

/-- ITS FALSE NEIGHBOUR: 'it returns false'. Refute it at one input. -/
def zigOrderWrong : ChangeSpec := { name := "zigOrder", fn := fun _ => fun
  | [d1, d2] => { results := [.lit (.bool false)], args := [d1, d2] }
  | _ => none }
def ZigOrderWrongFalsely : Prop := zigOrderRow.holds Try.pinned (OpenSpec.ofChange zigOrderWrong)

/-- 'brackenlaw.PrimSums': WHATEVER THE INPUT: true; the input reads as it did. -/
def primSumsSpec : ChangeSpec := { name := "primSums", fn := fun _ => fun
  | [d] => { results := [.lit (.bool true)], args := [d] }
  | _ => none }
def primSumsRow : OpenClaim := { program := "ytmiidfeckchjoab", sum := "a22ace790c72044c5cd19f6e7e24b5e4df3779a6c76b231b933eefaa831f9b0e", func := "bracken/brackenlaw.PrimSums", spec := "primSums", apart := false }
def PrimSumsSaid : Prop := primSumsRow.holds Try.pinned (OpenSpec.ofChange primSumsSpec)

/-- ITS FALSE NEIGHBOUR: 'it returns false'. Refute it at one input. -/
def primSumsWrong : ChangeSpec := { name := "primSums", fn := fun _ => fun
  | [d] => { results := [.lit (.bool false)], args := [d] }
  | _ => none }
def PrimSumsWrongFalsely : Prop := primSumsRow.holds Try.pinned (OpenSpec.ofChange primSumsWrong)

/-- 'brackenkeep.SumTurned': WHATEVER THE INPUT: true; the input reads as it did. -/
def sumTurnedSpec : ChangeSpec := { name := "sumTurned", fn := fun _ => fun
  | [d1, d2, d3] => { results := [.lit (.bool true)], args := [d1, d2, d3] }
  | _ => none }
def sumTurnedRow : OpenClaim := { program := "ytmiidfeckchjoab", sum := "a22ace790c72044c5cd19f6e7e24b5e4df3779a6c76b231b933eefaa831f9b0e", func := "bracken/brackenkeep.SumTurned", spec := "sumTurned", apart := false }
def SumTurnedSaid : Prop := sumTurnedRow.holds Try.pinned (OpenSpec.ofChange sumTurnedSpec)

/-- ITS FALSE NEIGHBOUR: 'it returns false'. Refute it at one input. -/
def sumTurnedWrong : ChangeSpec := { name := "sumTurned", fn := fun _ => fun
  | [d1, d2, d3] => { results := [.lit (.bool false)], args := [d1, d2, d3] }
  | _ => none }
def SumTurnedWrongFalsely : Prop := sumTurnedRow.holds Try.pinned (OpenSpec.ofChange sumTurnedWrong)

/-- 'brackenkeep.SumMixes': WHATEVER THE INPUT: true; the input reads as it did. -/
def sumMixesSpec : ChangeSpec := { name := "sumMixes", fn := fun _ => fun
  | [d1, d2, d3] => { results := [.lit (.bool true)], args := [d1, d2, d3] }
  | _ => none }
def sumMixesRow : OpenClaim := { program := "ytmiidfeckchjoab", sum := "a22ace790c72044c5cd19f6e7e24b5e4df3779a6c76b231b933eefaa831f9b0e", func := "bracken/brackenkeep.SumMixes", spec := "sumMixes", apart := false }
def SumMixesSaid : Prop := sumMixesRow.holds Try.pinned (OpenSpec.ofChange sumMixesSpec)

/-- ITS FALSE NEIGHBOUR: 'it returns false'. Refute it at one input. -/
def sumMixesWrong : ChangeSpec := { name := "sumMixes", fn := fun _ => fun
  | [d1, d2, d3] => { results := [.lit (.bool false)], args := [d1, d2, d3] }
  | _ => none }
def SumMixesWrongFalsely : Prop := sumMixesRow.holds Try.pinned (OpenSpec.ofChange sumMixesWrong)

/-- 'brackenkeep.SumGoesOn': WHATEVER THE INPUT: true; the input reads as it did. -/
def sumGoesOnSpec : ChangeSpec := { name := "sumGoesOn", fn := fun _ => fun
  | [d1, d2, d3] => { results := [.lit (.bool true)], args := [d1, d2, d3] }
  | _ => none }
def sumGoesOnRow : OpenClaim := { program := "ytmiidfeckchjoab", sum := "a22ace790c72044c5cd19f6e7e24b5e4df3779a6c76b231b933eefaa831f9b0e", func := "bracken/brackenkeep.SumGoesOn", spec := "sumGoesOn", apart := false }
def SumGoesOnSaid : Prop := sumGoesOnRow.holds Try.pinned (OpenSpec.ofChange sumGoesOnSpec)

/-- ITS FALSE NEIGHBOUR: 'it returns false'. Refute it at one input. -/
def sumGoesOnWrong : ChangeSpec := { name := "sumGoesOn", fn := fun _ => fun
  | [d1, d2, d3] => { results := [.lit (.bool false)], args := [d1, d2, d3] }
  | _ => none }
def SumGoesOnWrongFalsely : Prop := sumGoesOnRow.holds Try.pinned (OpenSpec.ofChange sumGoesOnWrong)

/- THE SECOND FORM. 'bulk': how many values and letters a reading holds, each counted each time it is reached (what is shared counts as often as it is met; a slice's spare places count too). A statement '..UptoSaid' is the law's where the arguments, and the package variables that the reading takes, are together of bulk at most 1048576: NARROWER than '..Said'. Prove '..Said' where nothing that the law and all that it calls make is longer than what came in: it says more and counts as full. Else prove '..UptoSaid'. A law counts once. -/
mutual
def uptoBulk {H : Type} : DataW H → Nat
  | .lit (.string bytes) => bytes.length + 1
  | .lit _ => 1
  | .nil => 1
  | .ptr d => uptoBulk d + 1
  | .slice elems spare => uptoBulkAll elems + uptoBulkAll spare + 1
  | .agg parts => uptoBulkAll parts + 1
  | .iface _ d => uptoBulk d + 1
  | .map entries => uptoBulkEntries entries + 1
  | .held _ => 1
def uptoBulkAll {H : Type} : List (DataW H) → Nat
  | [] => 0
  | d :: r => uptoBulk d + uptoBulkAll r
def uptoBulkEntries {H : Type} : List (Lit × DataW H) → Nat
  | [] => 0
  | x :: r => uptoBulkEntry x + uptoBulkEntries r
def uptoBulkEntry {H : Type} : Lit × DataW H → Nat
  | (.string bytes, d) => bytes.length + uptoBulk d + 1
  | (_, d) => uptoBulk d + 1
 end
def uptoSmall : (H : Type) → List (DataW H) → Bool := fun _ ds => decide (uptoBulkAll ds ≤ 1048576)
def OpenSpec.upto (s : _root_.Go.ChangeSpec) : _root_.Go.OpenSpec := { _root_.Go.OpenSpec.ofChange s with cond := some uptoSmall }

/-- 'brackenkeep.ZigOrder', WHERE WHAT IT READS IS OF BULK AT MOST 1048576: true; the input reads as it did. -/
def zigOrderUptoRow : OpenClaim := { program := "ytmiidfeckchjoab", sum := "a22ace790c72044c5cd19f6e7e24b5e4df3779a6c76b231b933eefaa831f9b0e", func := "bracken/brackenkeep.ZigOrder", spec := "zigOrder", apart := false, narrowed := true }
def ZigOrderUptoSaid : Prop := zigOrderUptoRow.holds Try.pinned (OpenSpec.upto zigOrderSpec)

/-- 'brackenlaw.PrimSums', WHERE WHAT IT READS IS OF BULK AT MOST 1048576: true; the input reads as it did. -/
def primSumsUptoRow : OpenClaim := { program := "ytmiidfeckchjoab", sum := "a22ace790c72044c5cd19f6e7e24b5e4df3779a6c76b231b933eefaa831f9b0e", func := "bracken/brackenlaw.PrimSums", spec := "primSums", apart := false, narrowed := true }
def PrimSumsUptoSaid : Prop := primSumsUptoRow.holds Try.pinned (OpenSpec.upto primSumsSpec)

/-- 'brackenkeep.SumTurned', WHERE WHAT IT READS IS OF BULK AT MOST 1048576: true; the input reads as it did. -/
def sumTurnedUptoRow : OpenClaim := { program := "ytmiidfeckchjoab", sum := "a22ace790c72044c5cd19f6e7e24b5e4df3779a6c76b231b933eefaa831f9b0e", func := "bracken/brackenkeep.SumTurned", spec := "sumTurned", apart := false, narrowed := true }
def SumTurnedUptoSaid : Prop := sumTurnedUptoRow.holds Try.pinned (OpenSpec.upto sumTurnedSpec)

/-- 'brackenkeep.SumMixes', WHERE WHAT IT READS IS OF BULK AT MOST 1048576: true; the input reads as it did. -/
def sumMixesUptoRow : OpenClaim := { program := "ytmiidfeckchjoab", sum := "a22ace790c72044c5cd19f6e7e24b5e4df3779a6c76b231b933eefaa831f9b0e", func := "bracken/brackenkeep.SumMixes", spec := "sumMixes", apart := false, narrowed := true }
def SumMixesUptoSaid : Prop := sumMixesUptoRow.holds Try.pinned (OpenSpec.upto sumMixesSpec)

/-- 'brackenkeep.SumGoesOn', WHERE WHAT IT READS IS OF BULK AT MOST 1048576: true; the input reads as it did. -/
def sumGoesOnUptoRow : OpenClaim := { program := "ytmiidfeckchjoab", sum := "a22ace790c72044c5cd19f6e7e24b5e4df3779a6c76b231b933eefaa831f9b0e", func := "bracken/brackenkeep.SumGoesOn", spec := "sumGoesOn", apart := false, narrowed := true }
def SumGoesOnUptoSaid : Prop := sumGoesOnUptoRow.holds Try.pinned (OpenSpec.upto sumGoesOnSpec)

end Rows
end Go.Proofs.Ytmiidfeckchjoab
