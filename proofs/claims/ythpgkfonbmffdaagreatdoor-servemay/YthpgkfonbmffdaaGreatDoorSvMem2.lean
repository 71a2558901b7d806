/- More on servers in memory. -/
import Derived.Test.YthpgkfonbmffdaaGreatDoorSvMem
namespace Go.Proofs.YthpgkfonbmffdaaGreatDoor
open Go.RowKit

/-- The library's tables stand whatever a block of numbers becomes. -/
theorem tabs_gN {w w' : World} {c : Nat} {r : Int} {vs : Array Value} {t : TypeId} (h : Tabs w) (ho : ObjAt c vs t w) (h0 : vs[0]? = some (.int .i64 r)) (g : w.grownBy w' (some c)) : Tabs w' := by
  have c0 := objAt_cell ho 0 h0
  have lt : ∀ {a : Addr} {v : Value}, w.cell? a = some v → a.block < w.heap.size := fun {a v} hc => by
    rcases Nat.lt_or_ge a.block w.heap.size with h' | h'
    · exact h'
    · simp [World.cell?, Array.getElem?_eq_none h'] at hc
  have far : ∀ {a : Addr} {v : Value}, w.cell? a = some v → a.block ≠ c → w'.cell? a = some v := fun {a v} hc hn => by
    rw [World.cell?_of_block (g.block a.block (lt hc) (by simpa using hn))]; exact hc
  refine ⟨fun k hk => far (h.1 k hk) (fun e => ?_), fun i hi => ⟨far (h.2 i hi).1 (fun e => ?_), far (h.2 i hi).2 (fun e => ?_)⟩⟩
  · have e : Tryz.laysValid_ren.g 3 = c := e
    have := h.1 0 (by decide)
    rw [e, c0] at this; simp at this
  · have e : Tryz.laysValid_ren.g 4 = c := e
    have := (h.2 0 (by decide)).1
    rw [e, Nat.mul_zero, c0] at this; simp at this
  · have e : Tryz.laysValid_ren.g 4 = c := e
    have := (h.2 0 (by decide)).1
    rw [e, Nat.mul_zero, c0] at this; simp at this
theorem wf_sv {n : Int} (h : -9223372036854775808 ≤ n ∧ n ≤ 9223372036854775807) : (Lit.int .i64 n).wf = true := by
  simp [Lit.wf, IntKind.min, IntKind.max, IntKind.signed, IntKind.bits]; omega
theorem wState_sv {s : StD} (h : checkE V8 s = 0) : wState s := wState_ok (ok_of_valid (v := 3) ((check_zero V8 s).1 h) (by simp [fitsD]))
end Go.Proofs.YthpgkfonbmffdaaGreatDoor
