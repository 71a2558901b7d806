/- Package up: same; slices.Equal at jobs, nodes and leases (the walks of WiEq, at the library's function). -/
import Derived.Test.YtfbakobmlbjncaaGreatDoorPkWi5
namespace Go.Proofs.YtfbakobmlbjncaaGreatDoor
open Go.RowKit

end Go.Proofs.YtfbakobmlbjncaaGreatDoor
