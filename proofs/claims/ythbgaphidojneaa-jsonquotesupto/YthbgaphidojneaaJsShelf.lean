/- The library functions that package json comes to, found in this program by their bodies. -/
import Derived.Shelf.Strings.BuilderK
import Derived.Shelf.LaysM
import Derived.Shelf.LaysC
import Derived.Test.YthbgaphidojneaaProg
namespace Go.Proofs
open Go.Shelf
def Try.layBS_ren : Go.Shelf.Ren := ⟨fun | 169 => 8 | n => n, fun | 70 => 24 | 9 => 9 | 0 => 0 | 72 => 27 | 37 => 25 | 127 => 34 | 3 => 3 | 5 => 5 | n => n, fun | n => n⟩
theorem Try.layBS : Go.Proofs.Lays.n169 Try.prog Try.layBS_ren := {
  mixed := by kernel_rfl
  f169 := Try.func8.trans (congrArg some (by kernel_rfl))
  t0 := Try.underlying0
  a0 := Try.isAgg0
  z0 := Try.sizeOf0
  v0 := Try.zeroValue0
  t3 := Try.underlying3
  a3 := Try.isAgg3
  z3 := Try.sizeOf3
  v3 := Try.zeroValue3
  t9 := Try.underlying9
  a9 := Try.isAgg9
  z9 := Try.sizeOf9
  v9 := Try.zeroValue9
  t37 := Try.underlying25
  a37 := Try.isAgg25
  z37 := Try.sizeOf25
  v37 := Try.zeroValue25
  t70 := Try.underlying24
  a70 := Try.isAgg24
  z70 := Try.sizeOf24
  v70 := Try.zeroValue24
  t72 := Try.underlying27
  a72 := Try.isAgg27
  z72 := Try.sizeOf27
  v72 := Try.zeroValue27
  t127 := Try.underlying34
  a127 := Try.isAgg34
  z127 := Try.sizeOf34
  v127 := Try.zeroValue34 }
end Go.Proofs
