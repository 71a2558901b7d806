/- What is valid UTF-8. -/
import Derived.Test.YtdbopgmckndmeaaDoorRows
import Derived.Lib.ValidLaws
namespace Go.Proofs.YtdbopgmckndmeaaDoor
open Go.RowKit Go.Lib

def V8 (s : ByteArray) : Bool := validD s.data.toList
end Go.Proofs.YtdbopgmckndmeaaDoor
