import Derived.Test.YtiekgafopalfmaaGreatDoorPPkWi2
import Derived.Test.YtiekgafopalfmaaGreatDoorPPkSt2
namespace Go.Proofs.YtiekgafopalfmaaGreatDoor
open Go.RowKit Go.Lib
end Go.Proofs.YtiekgafopalfmaaGreatDoor
namespace Go.Proofs.YtiekgafopalfmaaGreatDoor
open Go.RowKit
end Go.Proofs.YtiekgafopalfmaaGreatDoor
