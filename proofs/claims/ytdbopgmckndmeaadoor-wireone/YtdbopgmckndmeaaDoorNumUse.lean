import Derived.Test.YtdbopgmckndmeaaDoorNum
import Derived.Test.YtdbopgmckndmeaaDoorPlainN
import Derived.Test.YtdbopgmckndmeaaDoorRead
namespace Go.Proofs.YtdbopgmckndmeaaDoor
open Go.RowKit

theorem read_is (s : ByteArray) (x y z : Nat) (h : rd s.data.toList = (x, y, z)) (hs : s.size ≤ maxLen) (w : World) :
    Calls Tryd.prog 41 #[.string s] w fun e w' => e = .returned (.tuple #[.int .u64 x, .int .i64 y, .int .i64 z]) ∧ w = w' := by
  have := read_any s w hs
  rwa [h] at this
/-- The string of a number's bytes. -/
def numS (N : Nat) : ByteArray := ⟨(num N).toArray⟩
theorem numS_size (N : Nat) : (numS N).size = (num N).length := by simp [numS, ByteArray.size]
theorem numS_data (N : Nat) : (numS N).data.toList = num N := by simp [numS]
theorem number_is (N : Nat) (hN : N < 18446744073709551616) (w : World) :
    Calls Tryd.prog 76 #[.int .u64 N] w fun e w' => e = .returned (.string (numS N)) ∧ Below w.heap.size w w' := number_any N hN w
theorem app_data (s t : ByteArray) : (s ++ t).data.toList = s.data.toList ++ t.data.toList := by simp
end Go.Proofs.YtdbopgmckndmeaaDoor
