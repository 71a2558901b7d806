/- Go's tables for UTF-8 in memory; utf8.ValidString. -/
import Derived.Test.YtdbopgmckndmeaaDoorShelf
import Derived.Test.YtdbopgmckndmeaaDoorRows
import Derived.WalkKit
import Derived.Below
import Derived.Shelf.Unicode.ValidAny
namespace Go.Proofs.YtdbopgmckndmeaaDoor
open Go.RowKit Go.Lib

/-- The library's two tables lie as its text lays them. -/
def Tabs (w : World) : Prop := Lib.Utf8Tabs (Tryd.laysValid_ren.g 3) (Tryd.laysValid_ren.g 4) w
theorem Tabs.below {w w' : World} (h : Tabs w) (hb : Below w.heap.size w w') : Tabs w' := Utf8Tabs_below h hb
theorem tabs_next : ∀ w w', Tabs w → Below w.heap.size w w' → Tabs w' := fun _ _ h hb => h.below hb
theorem valid_is (s : ByteArray) (hs : s.size ≤ 140737488355328) (w : World) (hT : Tabs w) :
    Calls Tryd.prog 121 #[.string s] w fun e w' => e = .returned (.bool (validD s.data.toList)) ∧ Below w.heap.size w w' :=
  Any.utf8_ValidString Tryd.laysValid s w (by omega) hT
end Go.Proofs.YtdbopgmckndmeaaDoor
