import Derived.Test.YtiekgafopalfmaaGreatDoorShelf
import Derived.Test.YtiekgafopalfmaaGreatDoorRows
import Derived.WalkKit
import Derived.Below
import Derived.Shelf.Unicode.ValidAny
import Derived.WalkSpells
import Derived.ProofKit
import Derived.Lib.Hide
import Derived.Lib.ValidLaws
import Derived.Test.YtiekgafopalfmaaGreatDoorPPkNum
import Derived.Test.YtiekgafopalfmaaGreatDoorPPkRef
namespace Go.Proofs.YtiekgafopalfmaaGreatDoor
open Go.RowKit Go.Lib
def Tabs (w:World):Prop:=Lib.Utf8Tabs (Tryz.laysValid_ren.g 3) (Tryz.laysValid_ren.g 4) w
theorem Tabs.below {w w':World} (h:Tabs w) (hb:Below w.heap.size w w'):Tabs w':=Utf8Tabs_below h hb
theorem tabs_next:∀w w',Tabs w→Below w.heap.size w w'→Tabs w':=fun _ _ h hb=>h.below hb
theorem valid_is (s:ByteArray) (hs:s.size≤140737488355328) (w:World) (hT:Tabs w) :
  Calls Tryz.prog 92 #[.string s] w fun e w'=>e = .returned (.bool (validD s.data.toList))∧Below w.heap.size w w' :=
 Any.utf8_ValidString Tryz.laysValid s w (by omega) hT
end Go.Proofs.YtiekgafopalfmaaGreatDoor
namespace Go.Proofs.YtiekgafopalfmaaGreatDoor
open Go.RowKit Go.Lib
theorem clone_inner (s:ByteArray) (hs:s.size≤140737488355328) (w:World) :
  Calls Tryz.prog 93 #[.string s] w fun e w'=>e = .returned (.string s)∧Below w.heap.size w w' :=
 Any.stringslite_Clone Tryz.laysClone s w (by omega)
theorem clone_is (s:ByteArray) (hs:s.size≤140737488355328) (w:World) :
  Calls Tryz.prog 78 #[.string s] w fun e w'=>e = .returned (.string s)∧Below w.heap.size w w':=by
 have HC:=Lib.hid (clone_inner s hs)
 clear hs
 go_enter Tryz.func78,Tryz.ntmps78
 go_wp2_with fail
 refine(HC.out _).mono ?_
 rintro e w1 ⟨rfl,hb⟩
 go_wp2
 go_ret
 exact⟨rfl,hb⟩
end Go.Proofs.YtiekgafopalfmaaGreatDoor
namespace Go.Proofs.YtiekgafopalfmaaGreatDoor
open Go.RowKit Go.Lib
def V8 (s:ByteArray):Bool:=validD s.data.toList
end Go.Proofs.YtiekgafopalfmaaGreatDoor
namespace Go.Proofs.YtiekgafopalfmaaGreatDoor
open Go.RowKit Go.Lib
end Go.Proofs.YtiekgafopalfmaaGreatDoor
namespace Go.Proofs.YtiekgafopalfmaaGreatDoor
open Go.RowKit Go.Lib
end Go.Proofs.YtiekgafopalfmaaGreatDoor
