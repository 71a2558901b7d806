import Derived.Test.YtiekgafopalfmaaGreatDoorRows
import Derived.WalkKit
import Derived.WalkSpells
import Derived.ProofKit
import Derived.Below
import Derived.Lib.Hide
import Derived.Laws.IdiomStrings
namespace Go.Proofs.YtiekgafopalfmaaGreatDoor
open Go.RowKit

theorem rest_emod (n m : Int) (h0 : 0 < m) : (0 ≤ n.tmod m → n.tmod m = n % m) ∧ (n.tmod m < 0 → n.tmod m + m = n % m) ∧ -m < n.tmod m := by
  have h1 := Int.emod_nonneg n (b := m) (by omega)
  have h2 := Int.emod_lt_of_pos n h0
  rw [Int.tmod_eq_emod]
  split
  · omega
  · omega
end Go.Proofs.YtiekgafopalfmaaGreatDoor
