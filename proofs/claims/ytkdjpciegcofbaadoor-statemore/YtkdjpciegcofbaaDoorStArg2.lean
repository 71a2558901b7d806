/- A state among the arguments, with what is known of its slices' capacities; a node by value. -/
import Derived.Test.YtkdjpciegcofbaaDoorStArg
namespace Go.Proofs.YtkdjpciegcofbaaDoor
open Go.ChangeShapes Go.WideShapes Go.RowKit Go.Joins Go.Deep

theorem cap_of {H : Type} {enc : TypeId × Value → H} {w : World} {base : Nat} {spare : Nat → Bool} {held : Bool} {fuel : Nat} {t e : TypeId} (ht : Tryd.prog.underlying t = some (.slice e)) {ad : Option Addr} {n cap : Nat} {y : DataW H × List MemPlace} (hf : DataW.trod enc Tryd.prog w base spare held fuel t [.slice ad n cap] = some y) : n ≤ cap := by
  rcases open_slice ht hf with ⟨hcs, _⟩ | ⟨a, len, cap', m, n', D, Pl, hcs, _, hl, _⟩
  · simp only [List.cons.injEq, and_true, Value.slice.injEq] at hcs
    omega
  · simp only [List.cons.injEq, and_true, Value.slice.injEq] at hcs
    omega
/-- A state's rows, each no longer than its slice's capacity. -/
def StateCap (w : World) (M : StM) (s : StD) : Prop := StateAt w M s ∧ s.jobs.length ≤ M.cj ∧ s.nodes.length ≤ M.cn ∧ s.leases.length ≤ M.cl
theorem open_stateCap {H : Type} {enc : TypeId × Value → H} {w : World} {base : Nat} {spare : Nat → Bool} {held : Bool} {r : Reach} {b0 : Nat} {v : Value} {d : DataW H} {ps : List MemPlace} (hv : Value.okWide Tryd.prog w r b0 26 v) (h : DataW.Trod enc Tryd.prog w base spare held 26 v d ps) :
    ∃ (M : StM) (s : StD), v = stV M s ∧ StateCap w M s ∧ DSt d s ∧ wState s := by
  obtain ⟨v0, v1, v2, v3, y0, y1, y2, y3, n, rfl, rfl, rfl, t0, t1, t2, t3⟩ := open_agg4 Tryd.underlying26 (by kernel_rfl) (by kernel_rfl) hv h
  obtain ⟨a, e0, rfl, w0⟩ := DataW.trod_int Tryd.underlying3 t0
  simp only [List.cons.injEq, and_true] at e0
  subst e0
  obtain ⟨aj, cj, xj, rfl, mj, dj, wj⟩ := openJobs t1
  obtain ⟨an, cn, xn, rfl, mn, dn, wn⟩ := openNodes t2
  obtain ⟨al, cl, xl, rfl, ml, dl, wl⟩ := openLeases t3
  exact ⟨⟨aj, cj, an, cn, al, cl⟩, ⟨a, xj, xn, xl⟩, rfl, ⟨⟨mj, mn, ml⟩, cap_of Tryd.underlying22 t1, cap_of Tryd.underlying23 t2, cap_of Tryd.underlying24 t3⟩, ⟨_, _, _, rfl, dj, dn, dl⟩, w0, wj, wn, wl⟩
theorem open_Node {H : Type} {enc : TypeId × Value → H} {w : World} {base : Nat} {spare : Nat → Bool} {held : Bool} {r : Reach} {b0 : Nat} {v : Value} {d : DataW H} {ps : List MemPlace} (hv : Value.okWide Tryd.prog w r b0 45 v) (h : DataW.Trod enc Tryd.prog w base spare held 45 v d ps) :
    ∃ x : NodeD, v = .agg #[.string x.name, .int .i64 x.room, .string x.zone] ∧ d = dNode x ∧ ps = [] ∧ wNode x := by
  obtain ⟨v0, v1, v2, y0, y1, y2, n, rfl, rfl, rfl, t0, t1, t2⟩ := open_agg3 Tryd.underlying45 (by kernel_rfl) (by kernel_rfl) hv h
  obtain ⟨a, e0, rfl, w0⟩ := DataW.trod_string Tryd.underlying9 t0
  obtain ⟨b, e1, rfl, w1⟩ := DataW.trod_int Tryd.underlying3 t1
  obtain ⟨c, e2, rfl, w2⟩ := DataW.trod_string Tryd.underlying9 t2
  simp only [List.cons.injEq, and_true] at e0 e1 e2
  subst e0 e1 e2
  exact ⟨⟨a, b, c⟩, rfl, rfl, rfl, w0, w1, w2⟩
end Go.Proofs.YtkdjpciegcofbaaDoor
