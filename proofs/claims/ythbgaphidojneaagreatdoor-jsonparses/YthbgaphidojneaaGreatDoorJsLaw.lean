/- What the laws on package json share: a state in a block; what Parse answers. -/
import Derived.Test.YthbgaphidojneaaGreatDoorJsParse
import Derived.Test.YthbgaphidojneaaGreatDoorJsLaid
namespace Go.Proofs.YthbgaphidojneaaGreatDoor
open Go.RowKit

/-- A state in a block, with its rows. -/
def JBox (b : Nat) (aj an al : Option Addr) (cj cn cl : Nat) (t : StD) (w : World) : Prop := ObjAt b #[.int .i64 t.rev, .slice aj t.jobs.length cj, .slice an t.nodes.length cn, .slice al t.leases.length cl] 26 w ∧ JobsAt w aj t.jobs ∧ NodesAt w an t.nodes ∧ LeasesAt w al t.leases
theorem jbox_next {b : Nat} {aj an al : Option Addr} {cj cn cl : Nat} {t : StD} {w w' : World} (h : JBox b aj an al cj cn cl t w) (hb : Below w.heap.size w w') : JBox b aj an al cj cn cl t w' := ⟨objAt_next h.1 hb, jobsAt_next h.2.1 hb, nodesAt_next h.2.2.1 hb, leasesAt_next h.2.2.2 hb⟩
theorem jbox_new {aj an al : Option Addr} {cj cn cl : Nat} {t : StD} {w : World} (h : JobsAt w aj t.jobs ∧ NodesAt w an t.nodes ∧ LeasesAt w al t.leases) : JBox w.heap.size aj an al cj cn cl t (w.alloc (.cells #[.int .i64 t.rev, .slice aj t.jobs.length cj, .slice an t.nodes.length cn, .slice al t.leases.length cl] 26)) :=
  ⟨objAt_new w _ _, jobsAt_next h.1 (below_one _ _), nodesAt_next h.2.1 (below_one _ _), leasesAt_next h.2.2 (below_one _ _)⟩
theorem jbox_cells {b : Nat} {aj an al : Option Addr} {cj cn cl : Nat} {t : StD} {w : World} (h : JBox b aj an al cj cn cl t w) : w.cell? ⟨b, 0, none⟩ = some (.int .i64 t.rev) ∧ w.cell? ⟨b, 1, none⟩ = some (.slice aj t.jobs.length cj) ∧ w.cell? ⟨b, 2, none⟩ = some (.slice an t.nodes.length cn) ∧ w.cell? ⟨b, 3, none⟩ = some (.slice al t.leases.length cl) :=
  ⟨objAt_cell h.1 0 rfl, objAt_cell h.1 1 rfl, objAt_cell h.1 2 rfl, objAt_cell h.1 3 rfl⟩
theorem jp_form {s : StD} (hc : checkE V8 s = 0) : jpR (baL (stJ s)) = (s, 0) := jpar_ok hc (by have := stJ_len ((check_zero V8 s).1 hc); omega)
theorem jp_cut {s : StD} (hc : checkE V8 s = 0) {k : Nat} (hk : k < (stJ s).length) : jpR (baL ((stJ s).take k)) = (zeroSt, 4) := by
  have := stJ_len ((check_zero V8 s).1 hc)
  exact jpar_no (by rw [baL_data, List.length_take]; omega) (fun s' _ => stJ_cut s s' hk)
theorem jp_more {s : StD} (m : ByteArray) : m ≠ ⟨#[]⟩ → (jpR (baL (stJ s) ++ m)).2 ≠ 0 := by
  intro hm h
  have e : (baL (stJ s) ++ m).data.toList = stJ s ++ m.data.toList := by simp [baL]
  have h1 := jpar_inv (U := V8) (t := stJ s ++ m.data.toList) (s := (jpR (baL (stJ s) ++ m)).1) (by
    have : jpR (baL (stJ s) ++ m) = jparR V8 (stJ s ++ m.data.toList) := by unfold jpR; rw [e]
    rw [← this]
    exact Prod.ext rfl h)
  refine stJ_more s _ ?_ h1.2
  intro e2
  exact hm (ByteArray.ext (Array.ext' e2))
theorem jp_ok {t : ByteArray} {s : StD} (h : jpR t = (s, 0)) : checkE V8 s = 0 ∧ baL (stJ s) = t := by
  have := jpar_inv h
  exact ⟨this.1, by rw [this.2]; exact quoteB_ba t⟩
theorem jp_err {t : ByteArray} {s : StD} {c : Nat} (h : jpR t = (s, c)) (hc : c ≠ 0) : s = zeroSt := jpar_err h hc
theorem wState_zero : wState zeroSt := ⟨by decide, fun _ h => by simp [zeroSt] at h, fun _ h => by simp [zeroSt] at h, fun _ h => by simp [zeroSt] at h⟩
theorem wState_valid8 {s : StD} (h : checkE V8 s = 0) : wState s := wState_ok (v := 3) (ok_of_valid ((check_zero V8 s).1 h) (by simp [fitsD]))
end Go.Proofs.YthbgaphidojneaaGreatDoor
