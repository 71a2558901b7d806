/- Package up: same; slices.Equal at jobs, nodes and leases (the walks of WiEq, at the library's function). -/
import Derived.Test.YthfbjmjohmkfjaaGreatDoorPkWi5
namespace Go.Proofs.YthfbjmjohmkfjaaGreatDoor
open Go.RowKit

end Go.Proofs.YthfbjmjohmkfjaaGreatDoor
