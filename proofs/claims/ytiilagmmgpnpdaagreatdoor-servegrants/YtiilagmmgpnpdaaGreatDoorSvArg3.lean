/- A job and a lease that came in by value. -/
import Derived.Test.YtiilagmmgpnpdaaGreatDoorPkRq2
namespace Go.Proofs.YtiilagmmgpnpdaaGreatDoor
open Go.ChangeShapes Go.WideShapes Go.RowKit Go.Joins

section
variable {H : Type} {enc : TypeId × Value → H} {w : World} {base : Nat} {spare : Nat → Bool} {held : Bool}
set_option maxRecDepth 100000 in
theorem open_Job {r : Reach} {b0 : Nat} {v : Value} {d : DataW H} {ps : List MemPlace} (hv : Value.okWide Tryz.prog w r b0 38 v) (h : DataW.Trod enc Tryz.prog w base spare held 38 v d ps) :
    ∃ x : JobD, v = .agg #[.string x.name, .int .i64 x.prio, .int .i64 x.need, .int .i64 x.tries, .string x.tag] ∧ ps = [] ∧ wJob x := by
  obtain ⟨cs, rfl, hsz⟩ := okWide_struct Tryz.underlying38 hv
  obtain ⟨fuel, hf⟩ := h
  have hc : cs.size = 5 := hsz.trans (by kernel_rfl)
  obtain ⟨l⟩ := cs
  match l, hc with
  | [c0, c1, c2, c3, c4], _ =>
    obtain ⟨x, rfl, rfl, rfl, rfl, rfl, hp, hw⟩ := tread_job hf
    exact ⟨x, rfl, hp, hw⟩
set_option maxRecDepth 100000 in
theorem open_Lease {r : Reach} {b0 : Nat} {v : Value} {d : DataW H} {ps : List MemPlace} (hv : Value.okWide Tryz.prog w r b0 42 v) (h : DataW.Trod enc Tryz.prog w base spare held 42 v d ps) :
    ∃ x : LeaseD, v = .agg #[.string x.job, .string x.node, .int .i64 x.til] ∧ ps = [] ∧ wLease x := by
  obtain ⟨cs, rfl, hsz⟩ := okWide_struct Tryz.underlying42 hv
  obtain ⟨fuel, hf⟩ := h
  have hc : cs.size = 3 := hsz.trans (by kernel_rfl)
  obtain ⟨l⟩ := cs
  match l, hc with
  | [c0, c1, c2], _ =>
    obtain ⟨x, rfl, rfl, rfl, hp, hw⟩ := tread_lease hf
    exact ⟨x, rfl, hp, hw⟩
end
end Go.Proofs.YtiilagmmgpnpdaaGreatDoor
