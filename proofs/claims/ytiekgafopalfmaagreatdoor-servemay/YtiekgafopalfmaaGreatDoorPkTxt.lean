import Derived.Test.YtiekgafopalfmaaGreatDoorShelf
import Derived.Test.YtiekgafopalfmaaGreatDoorRows
import Derived.WalkKit
import Derived.Below
import Derived.Shelf.Unicode.ValidAny
import Derived.WalkSpells
import Derived.ProofKit
import Derived.Lib.Hide
import Derived.Lib.ValidLaws
import Derived.Test.YtiekgafopalfmaaGreatDoorPkNum
import Derived.Test.YtiekgafopalfmaaGreatDoorPkRef
/- Go's tables for UTF-8 in memory; utf8.ValidString. -/
namespace Go.Proofs.YtiekgafopalfmaaGreatDoor
open Go.RowKit Go.Lib

/-- The library's two tables lie as its text lays them. -/
def Tabs (w : World) : Prop := Lib.Utf8Tabs (Tryz.laysValid_ren.g 3) (Tryz.laysValid_ren.g 4) w
theorem Tabs.below {w w' : World} (h : Tabs w) (hb : Below w.heap.size w w') : Tabs w' := Utf8Tabs_below h hb
theorem tabs_next : ∀ w w', Tabs w → Below w.heap.size w w' → Tabs w' := fun _ _ h hb => h.below hb
theorem valid_is (s : ByteArray) (hs : s.size ≤ 140737488355328) (w : World) (hT : Tabs w) :
    Calls Tryz.prog 92 #[.string s] w fun e w' => e = .returned (.bool (validD s.data.toList)) ∧ Below w.heap.size w w' :=
  Any.utf8_ValidString Tryz.laysValid s w (by omega) hT
end Go.Proofs.YtiekgafopalfmaaGreatDoor

namespace Go.Proofs.YtiekgafopalfmaaGreatDoor
open Go.RowKit Go.Lib

theorem clone_inner (s : ByteArray) (hs : s.size ≤ 140737488355328) (w : World) :
    Calls Tryz.prog 93 #[.string s] w fun e w' => e = .returned (.string s) ∧ Below w.heap.size w w' :=
  Any.stringslite_Clone Tryz.laysClone s w (by omega)
theorem clone_is (s : ByteArray) (hs : s.size ≤ 140737488355328) (w : World) :
    Calls Tryz.prog 78 #[.string s] w fun e w' => e = .returned (.string s) ∧ Below w.heap.size w w' := by
  have HC := Lib.hid (clone_inner s hs)
  clear hs
  go_enter Tryz.func78, Tryz.ntmps78
  go_wp2_with fail
  refine (HC.out _).mono ?_
  rintro e w1 ⟨rfl, hb⟩
  go_wp2
  go_ret
  exact ⟨rfl, hb⟩
end Go.Proofs.YtiekgafopalfmaaGreatDoor

/- What is valid UTF-8. -/
namespace Go.Proofs.YtiekgafopalfmaaGreatDoor
open Go.RowKit Go.Lib

def V8 (s : ByteArray) : Bool := validD s.data.toList
end Go.Proofs.YtiekgafopalfmaaGreatDoor

/- What Text and ReadText answer (no program); what is valid UTF-8. -/
namespace Go.Proofs.YtiekgafopalfmaaGreatDoor
open Go.RowKit Go.Lib

/-- What Text answers. -/
def txt (s : ByteArray) : ByteArray × Nat :=
  if 16 < s.size then (⟨#[]⟩, 2) else if validD s.data.toList = true then (numS s.size ++ s, 0) else (⟨#[]⟩, 4)
/-- What ReadText answers. -/
def rdT (s : ByteArray) : ByteArray × Nat × Nat :=
  if (rd s.data.toList).2.2 ≠ 0 then (⟨#[]⟩, 0, (rd s.data.toList).2.2)
  else if 16 < (rd s.data.toList).1 then (⟨#[]⟩, 0, 2)
  else if s.size < (rd s.data.toList).2.1 + (rd s.data.toList).1 then (⟨#[]⟩, 0, 3)
  else if validD (s.extract (rd s.data.toList).2.1 ((rd s.data.toList).2.1 + (rd s.data.toList).1)).data.toList = true then (s.extract (rd s.data.toList).2.1 ((rd s.data.toList).2.1 + (rd s.data.toList).1), (rd s.data.toList).2.1 + (rd s.data.toList).1, 0)
  else (⟨#[]⟩, 0, 4)
end Go.Proofs.YtiekgafopalfmaaGreatDoor

namespace Go.Proofs.YtiekgafopalfmaaGreatDoor
open Go.RowKit Go.Lib

theorem ret_t2 {p : ByteArray × Nat} {a : ByteArray} {b : Int} (n : Nat) (h : p = (a, n)) (hb : b = n) : Ending.returned (.tuple #[.string a, .int .i64 b]) = .returned (.tuple #[.string p.1, .int .i64 p.2]) := by
  subst h hb; rfl
theorem ret_t3 {p : ByteArray × Nat × Nat} {a : ByteArray} {b c : Int} (n m : Nat) (h : p = (a, n, m)) (hb : b = n) (hc : c = m) : Ending.returned (.tuple #[.string a, .int .i64 b, .int .i64 c]) = .returned (.tuple #[.string p.1, .int .i64 p.2.1, .int .i64 p.2.2]) := by
  subst h hb hc; rfl



end Go.Proofs.YtiekgafopalfmaaGreatDoor
