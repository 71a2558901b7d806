/- Package up: same; slices.Equal at jobs, nodes and leases (the walks of WiEq, at the library's function). -/
import Derived.Test.YthfbjmjohmkfjaaDoorPkWi5
namespace Go.Proofs.YthfbjmjohmkfjaaDoor
open Go.RowKit

end Go.Proofs.YthfbjmjohmkfjaaDoor
