/- Package up: its small functions. -/
import Derived.Test.YtfbakobmlbjncaaGreatDoorUpMore
import Derived.Test.YtfbakobmlbjncaaGreatDoorPkSt2
import Derived.Test.YtfbakobmlbjncaaGreatDoorPkWi2
import Derived.Test.YtfbakobmlbjncaaGreatDoorPkTxt
namespace Go.Proofs.YtfbakobmlbjncaaGreatDoor
open Go.RowKit

def okV (v : Int) : Bool := decide (1 ≤ v) && decide (v ≤ 3)
def okUp (a b : Int) : Bool := okV a && (okV b && decide (a ≤ b))
theorem okV_iff (v : Int) : okV v = true ↔ 1 ≤ v ∧ v ≤ 3 := by simp [okV]
theorem okUp_iff (a b : Int) : okUp a b = true ↔ 1 ≤ a ∧ a ≤ b ∧ b ≤ 3 := by simp [okUp, okV]; omega
end Go.Proofs.YtfbakobmlbjncaaGreatDoor
