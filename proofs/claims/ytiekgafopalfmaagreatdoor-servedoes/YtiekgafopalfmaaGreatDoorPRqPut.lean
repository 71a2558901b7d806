import Derived.Test.YtiekgafopalfmaaGreatDoorPPkRq1
namespace Go.Proofs.YtiekgafopalfmaaGreatDoor
open Go.RowKit Go.Lib
end Go.Proofs.YtiekgafopalfmaaGreatDoor
