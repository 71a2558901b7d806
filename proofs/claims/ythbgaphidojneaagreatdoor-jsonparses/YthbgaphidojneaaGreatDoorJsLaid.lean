/- What the rows' list says of the library's variables; a world in which they lie so. -/
import Derived.Test.YthbgaphidojneaaGreatDoorCards
import Derived.Test.YthbgaphidojneaaGreatDoorTie
import Derived.Test.YthbgaphidojneaaGreatDoorJsEnv
import Derived.OpenShut
import Derived.ShutString
import Derived.SizedLaws
import Derived.ChangeOld
import Derived.Lib.LaidIn
import Derived.Lib.LaidU8T
import Derived.Lib.LaidTab
import Derived.Lib.SmallJoins
import Derived.Stop.LaidErr
import Derived.Deep.DeepHandedRow
import Derived.Deep.DeepWitnessRowRef
namespace Go.Proofs.YthbgaphidojneaaGreatDoor
open Go.RowKit Go.Lib
set_option linter.unusedVariables false

theorem jfirst_data : Rows.laid_unicode_utf8_first = Lib.firstData := by kernel_rfl
theorem jaccept_data : (Rows.laid_unicode_utf8_acceptRanges : DataW Unit) = Lib.acceptData := by kernel_rfl
theorem jpow_data : (Rows.laid_internal_strconv_uint64pow10 : DataW Unit) = Lib.tabData .u64 Lib.pow10Tab := by kernel_rfl
theorem jtab8_of {W : World} (hL : laidMetH Tryz.prog Rows.jSONParsesRow.laid W) : Tabs W := by
  have h : laidMet Tryz.prog Rows.jSONParsesRow.laid W := hL
  have h4 := Lib.laidMet.reads h (d := Rows.laid_unicode_utf8_acceptRanges) (.tail _ (.tail _ (.tail _ (.head _))))
  have h3 := Lib.laidMet.reads h (d := Rows.laid_unicode_utf8_first) (.tail _ (.tail _ (.tail _ (.tail _ (.tail _ (.tail _ (.head _)))))))
  rw [jaccept_data] at h4
  rw [jfirst_data] at h3
  exact utf8Tabs_of_readsT (U8Types.of196 Tryz.laysValid) ⟨by kernel_rfl, by kernel_rfl, by kernel_rfl, by kernel_rfl, by kernel_rfl, by kernel_rfl, by kernel_rfl⟩ h3 h4
theorem jpow_of {W : World} (hL : laidMetH Tryz.prog Rows.jSONParsesRow.laid W) : Pow10 W := by
  have h : laidMet Tryz.prog Rows.jSONParsesRow.laid W := hL
  have h2 := (Go.laidMet.tail (Go.laidMet.tail h))
  rw [jpow_data] at h2
  have ht := tabIs_of_head (g := 2) (t := 188) (e := 101) (n := 20) (by kernel_rfl) (by kernel_rfl) Tryz.underlying188 Tryz.underlying101 (by kernel_rfl) (by kernel_rfl) h2
  intro w' hb n a b
  refine (Any.strconv_Itoa Tryz.layItoa n a b w' (Go.Joins.tab_stays (g := 2) (by kernel_rfl) ht hb (Nat.le_refl _))).mono ?_
  rintro e w2 ⟨rfl, k, os, rfl⟩
  refine ⟨?_, below_grow w' k os⟩
  rw [itoa_dig]; rfl
set_option maxRecDepth 1000000 in
/-- The one type of that name. -/
theorem jrow_of {nm : String} (h : Tryz.prog.typeName? 3 202 = some nm) (u : TypeId) (hu : Tryz.prog.typeName? 3 u = some nm) : u = 202 := by
  have hm : Tryz.prog.typeName? 2 204 = some "errors.errorString" := by kernel_rfl
  have hp : (Tryz.prog.typeName? 2 204).map (("*" : String) ++ ·) = some nm := h
  rw [hm] at hp
  obtain rfl : ("*" : String) ++ "errors.errorString" = nm := Option.some.inj hp
  exact typeName_ptr_named (nm := "errors.errorString") (by kernel_rfl) (by kernel_rfl) (by decide) u hu
set_option maxRecDepth 1000000 in
theorem jtabs_of {W : World} (hL : laidMetH Tryz.prog Rows.jSONParsesRow.laid W) (hSh : W.ShapedOpen Tryz.prog) : JTabs W := {
  tabs := jtab8_of hL
  pow := jpow_of hL
  most := Tryz.layCut.s1_3 W hSh
  syn := by
    have h : laidMet Tryz.prog Rows.jSONParsesRow.laid W := hL
    obtain ⟨a, s, hv, _⟩ := laid_sentinel (g := 3) (ti := 120) (tp := 202) (te := 204) (ts := 9) (Go.laidMet.tail (Go.laidMet.tail (Go.laidMet.tail (Go.laidMet.tail (Go.laidMet.tail h))))) (by kernel_rfl) (by kernel_rfl) Tryz.underlying120 (jrow_of rfl) Tryz.underlying202 Tryz.underlying204 (by kernel_rfl) (by kernel_rfl) Tryz.underlying9 (by kernel_rfl) (by kernel_rfl)
    exact ⟨_, _, by have h0 := World.var?_cell (g := 3) (by kernel_rfl) hv 0; simpa using h0⟩
  rng := by
    have h : laidMet Tryz.prog Rows.jSONParsesRow.laid W := hL
    obtain ⟨a, s, hv, _⟩ := laid_sentinel (g := 4) (ti := 120) (tp := 202) (te := 204) (ts := 9) (Go.laidMet.tail (Go.laidMet.tail (Go.laidMet.tail (Go.laidMet.tail h)))) (by kernel_rfl) (by kernel_rfl) Tryz.underlying120 (jrow_of rfl) Tryz.underlying202 Tryz.underlying204 (by kernel_rfl) (by kernel_rfl) Tryz.underlying9 (by kernel_rfl) (by kernel_rfl)
    exact ⟨_, _, by have h0 := World.var?_cell (g := 4) (by kernel_rfl) hv 0; simpa using h0⟩
  }
noncomputable def jlow : Nat := (World.holding Tryz.prog default ⟨#[], #[], []⟩).heap.size
noncomputable def jlaidWorld (os : Os) : World :=
  let w0 := World.holding Tryz.prog os ⟨#[.cells #[.string ⟨#[105, 110, 118, 97, 108, 105, 100, 32, 115, 121, 110, 116, 97, 120]⟩] 204, .cells #[.string ⟨#[118, 97, 108, 117, 101, 32, 111, 117, 116, 32, 111, 102, 32, 114, 97, 110, 103, 101]⟩] 204], #[], []⟩
  let put (h : Array Obj) (g : Nat) (cs : Array Value) : Array Obj := h.modify g fun
    | .cells _ t frozen => .cells cs t frozen
    | o => o
  let h1 := put w0.heap 0 (Lib.firstTab.map fun z => Value.int .u8 z).toArray
  let h2 := put h1 1 ((List.range 16).flatMap fun i => [Value.int .u8 (Lib.accLo i), Value.int .u8 (Lib.accHi i)]).toArray
  let h3 := put h2 2 (Lib.pow10Tab.map fun z => Value.int .u64 z).toArray
  let h4 := put h3 6 ([0, 1, 28, 2, 29, 14, 24, 3, 30, 22, 20, 15, 25, 17, 4, 8, 31, 27, 13, 23, 21, 19, 16, 7, 26, 12, 18, 6, 11, 5, 10, 9].map fun z => Value.int .u8 z).toArray
  let h5 := put h4 7 ([0, 1, 56, 2, 57, 49, 28, 3, 61, 58, 42, 50, 38, 29, 17, 4, 62, 47, 59, 36, 45, 43, 51, 22, 53, 39, 33, 30, 24, 18, 12, 5, 63, 55, 48, 27, 60, 41, 37, 16, 46, 35, 44, 21, 52, 32, 23, 11, 54, 26, 40, 15, 34, 20, 31, 10, 25, 14, 19, 9, 13, 8, 7, 6].map fun z => Value.int .u8 z).toArray
  let h6 := put h5 3 #[.iface 202 (.pointer (some ⟨jlow, 0, none⟩))]
  let h7 := put h6 4 #[.iface 202 (.pointer (some ⟨jlow + 1, 0, none⟩))]
  { w0 with heap := h7 }
end Go.Proofs.YthbgaphidojneaaGreatDoor
