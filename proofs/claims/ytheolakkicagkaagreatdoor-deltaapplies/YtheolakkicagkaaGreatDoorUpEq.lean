/- Package up: same; slices.Equal at jobs, nodes and leases (the walks of WiEq, at the library's function). -/
import Derived.Test.YtheolakkicagkaaGreatDoorPkWi5
namespace Go.Proofs.YtheolakkicagkaaGreatDoor
open Go.RowKit

end Go.Proofs.YtheolakkicagkaaGreatDoor
