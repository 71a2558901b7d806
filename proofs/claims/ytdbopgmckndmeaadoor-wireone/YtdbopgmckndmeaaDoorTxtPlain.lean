/- What Text and ReadText answer (no program); what is valid UTF-8. -/
import Derived.Test.YtdbopgmckndmeaaDoorNumUse
import Derived.Test.YtdbopgmckndmeaaDoorV8
namespace Go.Proofs.YtdbopgmckndmeaaDoor
open Go.RowKit Go.Lib

/-- What Text answers. -/
def txt (s : ByteArray) : ByteArray × Nat :=
  if 16 < s.size then (⟨#[]⟩, 2) else if validD s.data.toList = true then (numS s.size ++ s, 0) else (⟨#[]⟩, 4)
/-- What ReadText answers. -/
def rdT (s : ByteArray) : ByteArray × Nat × Nat :=
  if (rd s.data.toList).2.2 ≠ 0 then (⟨#[]⟩, 0, (rd s.data.toList).2.2)
  else if 16 < (rd s.data.toList).1 then (⟨#[]⟩, 0, 2)
  else if s.size < (rd s.data.toList).2.1 + (rd s.data.toList).1 then (⟨#[]⟩, 0, 3)
  else if validD (s.extract (rd s.data.toList).2.1 ((rd s.data.toList).2.1 + (rd s.data.toList).1)).data.toList = true then (s.extract (rd s.data.toList).2.1 ((rd s.data.toList).2.1 + (rd s.data.toList).1), (rd s.data.toList).2.1 + (rd s.data.toList).1, 0)
  else (⟨#[]⟩, 0, 4)
end Go.Proofs.YtdbopgmckndmeaaDoor
