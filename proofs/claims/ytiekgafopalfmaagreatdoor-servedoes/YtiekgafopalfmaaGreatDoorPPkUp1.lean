import Derived.Test.YtiekgafopalfmaaGreatDoorPPkSt1
import Derived.Test.YtiekgafopalfmaaGreatDoorPPkWi1
import Derived.Test.YtiekgafopalfmaaGreatDoorPPkSt2
import Derived.Test.YtiekgafopalfmaaGreatDoorPPkWi2
import Derived.Test.YtiekgafopalfmaaGreatDoorPPkTxt
namespace Go.Proofs.YtiekgafopalfmaaGreatDoor
section
variable {U : ByteArray → Bool}
end
end Go.Proofs.YtiekgafopalfmaaGreatDoor
namespace Go.Proofs.YtiekgafopalfmaaGreatDoor
end Go.Proofs.YtiekgafopalfmaaGreatDoor
namespace Go.Proofs.YtiekgafopalfmaaGreatDoor
open Go.RowKit
end Go.Proofs.YtiekgafopalfmaaGreatDoor
