/- Package up: how often a job was tried, by its lease; the functions that raise and lower hand to each. -/
import Derived.Test.YtfbakobmlbjncaaGreatDoorUpEach
import Derived.Test.YtfbakobmlbjncaaGreatDoorPkWi5
namespace Go.Proofs.YtfbakobmlbjncaaGreatDoor
open Go.RowKit

def leased (n : ByteArray) (l : LeaseD) : Bool := decide (l.job = n)
theorem hasLease_any (ls : List LeaseD) (n : ByteArray) : hasLease ls n = ls.any (leased n) := rfl
end Go.Proofs.YtfbakobmlbjncaaGreatDoor
