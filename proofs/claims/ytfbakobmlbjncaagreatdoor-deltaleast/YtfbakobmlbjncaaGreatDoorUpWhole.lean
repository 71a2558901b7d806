/- Package up: raise and lower at states. -/
import Derived.Test.YtfbakobmlbjncaaGreatDoorUpMem
namespace Go.Proofs.YtfbakobmlbjncaaGreatDoor
open Go.RowKit

end Go.Proofs.YtfbakobmlbjncaaGreatDoor
