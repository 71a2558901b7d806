import Derived.Test.YtiekgafopalfmaaGreatDoorPPkDl1
import Derived.Test.YtiekgafopalfmaaGreatDoorPPkWi1
import Derived.Test.YtiekgafopalfmaaGreatDoorPPkWi4
namespace Go.Proofs.YtiekgafopalfmaaGreatDoor
section
variable (U : ByteArray → Bool)
end
section
variable {U : ByteArray → Bool}
end
noncomputable def diffR (U:ByteArray→Bool) (a b:StD):DelD×Nat:=if checkE U a≠0 then(zeroDel,checkE U a) else if checkE U b≠0 then(zeroDel,checkE U b) else if a.rev<b.rev then(diffS a b,0) else(zeroDel,1)
section
variable {U : ByteArray → Bool}
theorem diffR_ok {a b:StD} (ha:checkE U a=0) (hb:checkE U b=0) (hr:a.rev<b.rev):diffR U a b=(diffS a b,0):=by unfold diffR;rw[if_neg (by simp[ha]),if_neg (by simp[hb]),if_pos hr]
end
end Go.Proofs.YtiekgafopalfmaaGreatDoor
namespace Go.Proofs.YtiekgafopalfmaaGreatDoor
open Go.RowKit
end Go.Proofs.YtiekgafopalfmaaGreatDoor
