/- A request that came in by value. -/
import Derived.Test.YthpgkfonbmffdaaGreatDoorRqCheckA
import Derived.Test.YthpgkfonbmffdaaGreatDoorRows
import Derived.Lib.SmallJoins
import Derived.OpenShut
import Derived.ShutString
import Derived.SizedLaws
import Derived.ChangeOld
namespace Go.Proofs.YthpgkfonbmffdaaGreatDoor
open Go.ChangeShapes Go.WideShapes Go.RowKit Go.Joins

section
variable {H : Type} {enc : TypeId × Value → H} {w : World} {base : Nat} {spare : Nat → Bool} {held : Bool}
set_option maxRecDepth 100000 in
theorem tread_job {fuel : Nat} {c0 c1 c2 c3 c4 : Value} {y : DataW H × List MemPlace} (h : DataW.trod enc Tryz.prog w base spare held fuel 38 [c0, c1, c2, c3, c4] = some y) :
    ∃ x : JobD, c0 = .string x.name ∧ c1 = .int .i64 x.prio ∧ c2 = .int .i64 x.need ∧ c3 = .int .i64 x.tries ∧ c4 = .string x.tag ∧ y.2 = [] ∧ wJob x := by
  obtain ⟨xs, n, _, rfl, _, hlen, hg⟩ := DataW.trod_struct Tryz.underlying38 h
  match xs, hlen with
  | [y0, y1, y2, y3, y4], _ =>
    have t0 := hg 0 _ rfl
    have t1 := hg 1 _ rfl
    have t2 := hg 2 _ rfl
    have t3 := hg 3 _ rfl
    have t4 := hg 4 _ rfl
    simp at t0 t1 t2 t3 t4
    rw [show Tryz.prog.cellsOf 9 = 1 from by kernel_rfl] at t0 t4
    rw [show Tryz.prog.cellsOf 3 = 1 from by kernel_rfl] at t1 t2 t3
    simp only [List.take_succ_cons, List.take_zero] at t0 t1 t2 t3 t4
    obtain ⟨p0, e0, rfl, u0⟩ := DataW.trod_string Tryz.underlying9 t0
    obtain ⟨p1, e1, rfl, u1⟩ := DataW.trod_int Tryz.underlying3 t1
    obtain ⟨p2, e2, rfl, u2⟩ := DataW.trod_int Tryz.underlying3 t2
    obtain ⟨p3, e3, rfl, u3⟩ := DataW.trod_int Tryz.underlying3 t3
    obtain ⟨p4, e4, rfl, u4⟩ := DataW.trod_string Tryz.underlying9 t4
    simp only [List.cons.injEq, and_true] at e0 e1 e2 e3 e4
    exact ⟨⟨p0, p1, p2, p3, p4⟩, e0, e1, e2, e3, e4, by simp, u0, u1, u2, u3, u4⟩
set_option maxRecDepth 100000 in
theorem tread_node {fuel : Nat} {c0 c1 c2 : Value} {y : DataW H × List MemPlace} (h : DataW.trod enc Tryz.prog w base spare held fuel 40 [c0, c1, c2] = some y) :
    ∃ x : NodeD, c0 = .string x.name ∧ c1 = .int .i64 x.room ∧ c2 = .string x.zone ∧ y.2 = [] ∧ wNode x := by
  obtain ⟨xs, n, _, rfl, _, hlen, hg⟩ := DataW.trod_struct Tryz.underlying40 h
  match xs, hlen with
  | [y0, y1, y2], _ =>
    have t0 := hg 0 _ rfl
    have t1 := hg 1 _ rfl
    have t2 := hg 2 _ rfl
    simp at t0 t1 t2
    rw [show Tryz.prog.cellsOf 9 = 1 from by kernel_rfl] at t0 t2
    rw [show Tryz.prog.cellsOf 3 = 1 from by kernel_rfl] at t1
    simp only [List.take_succ_cons, List.take_zero] at t0 t1 t2
    obtain ⟨p0, e0, rfl, u0⟩ := DataW.trod_string Tryz.underlying9 t0
    obtain ⟨p1, e1, rfl, u1⟩ := DataW.trod_int Tryz.underlying3 t1
    obtain ⟨p2, e2, rfl, u2⟩ := DataW.trod_string Tryz.underlying9 t2
    simp only [List.cons.injEq, and_true] at e0 e1 e2
    exact ⟨⟨p0, p1, p2⟩, e0, e1, e2, by simp, u0, u1, u2⟩
set_option maxRecDepth 100000 in
theorem tread_lease {fuel : Nat} {c0 c1 c2 : Value} {y : DataW H × List MemPlace} (h : DataW.trod enc Tryz.prog w base spare held fuel 42 [c0, c1, c2] = some y) :
    ∃ x : LeaseD, c0 = .string x.job ∧ c1 = .string x.node ∧ c2 = .int .i64 x.til ∧ y.2 = [] ∧ wLease x := by
  obtain ⟨xs, n, _, rfl, _, hlen, hg⟩ := DataW.trod_struct Tryz.underlying42 h
  match xs, hlen with
  | [y0, y1, y2], _ =>
    have t0 := hg 0 _ rfl
    have t1 := hg 1 _ rfl
    have t2 := hg 2 _ rfl
    simp at t0 t1 t2
    rw [show Tryz.prog.cellsOf 9 = 1 from by kernel_rfl] at t0 t1
    rw [show Tryz.prog.cellsOf 3 = 1 from by kernel_rfl] at t2
    simp only [List.take_succ_cons, List.take_zero] at t0 t1 t2
    obtain ⟨p0, e0, rfl, u0⟩ := DataW.trod_string Tryz.underlying9 t0
    obtain ⟨p1, e1, rfl, u1⟩ := DataW.trod_string Tryz.underlying9 t1
    obtain ⟨p2, e2, rfl, u2⟩ := DataW.trod_int Tryz.underlying3 t2
    simp only [List.cons.injEq, and_true] at e0 e1 e2
    exact ⟨⟨p0, p1, p2⟩, e0, e1, e2, by simp, u0, u1, u2⟩
theorem list14 {α : Type} {l : List α} (h : l.length = 14) : ∃ c0 c1 c2 c3 c4 c5 c6 c7 c8 c9 c10 c11 c12 c13, l = [c0, c1, c2, c3, c4, c5, c6, c7, c8, c9, c10, c11, c12, c13] := by
  match l, h with
  | [c0, c1, c2, c3, c4, c5, c6, c7, c8, c9, c10, c11, c12, c13], _ => exact ⟨c0, c1, c2, c3, c4, c5, c6, c7, c8, c9, c10, c11, c12, c13, rfl⟩
set_option maxRecDepth 100000 in
theorem tread_req {fuel : Nat} {cs : List Value} {y : DataW H × List MemPlace} (h : DataW.trod enc Tryz.prog w base spare held fuel 44 cs = some y) :
    ∃ q : ReqD, cs = [.int .i64 q.kind, .string q.job.name, .int .i64 q.job.prio, .int .i64 q.job.need, .int .i64 q.job.tries, .string q.job.tag, .string q.node.name, .int .i64 q.node.room, .string q.node.zone, .string q.lease.job, .string q.lease.node, .int .i64 q.lease.til, .string q.name, .int .i64 q.n] ∧ y.2 = [] ∧ wReq q := by
  obtain ⟨xs, n, _, rfl, hc, hlen, hg⟩ := DataW.trod_struct Tryz.underlying44 h
  obtain ⟨c0, c1, c2, c3, c4, c5, c6, c7, c8, c9, c10, c11, c12, c13, rfl⟩ := list14 (hc.trans (show Tryz.prog.cellsOf 44 = 14 from by kernel_rfl))
  match xs, hlen with
  | [y0, y1, y2, y3, y4, y5], _ =>
    have t0 := hg 0 _ rfl
    have t1 := hg 1 _ rfl
    have t2 := hg 2 _ rfl
    have t3 := hg 3 _ rfl
    have t4 := hg 4 _ rfl
    have t5 := hg 5 _ rfl
    simp at t0 t1 t2 t3 t4 t5
    rw [show Tryz.prog.cellsOf 9 = 1 from by kernel_rfl] at t4
    rw [show Tryz.prog.cellsOf 3 = 1 from by kernel_rfl] at t0 t5
    rw [show Tryz.prog.cellsOf 38 = 5 from by kernel_rfl] at t1
    rw [show Tryz.prog.cellsOf 40 = 3 from by kernel_rfl] at t2
    rw [show Tryz.prog.cellsOf 42 = 3 from by kernel_rfl] at t3
    simp only [List.take_succ_cons, List.take_zero] at t0 t1 t2 t3 t4 t5
    obtain ⟨p0, e0, rfl, u0⟩ := DataW.trod_int Tryz.underlying3 t0
    obtain ⟨j, j0, j1, j2, j3, j4, jp, jw⟩ := tread_job t1
    obtain ⟨nd, n0, n1, n2, np, nw⟩ := tread_node t2
    obtain ⟨l, l0, l1, l2, lp, lw⟩ := tread_lease t3
    obtain ⟨p4, e4, rfl, u4⟩ := DataW.trod_string Tryz.underlying9 t4
    obtain ⟨p5, e5, rfl, u5⟩ := DataW.trod_int Tryz.underlying3 t5
    simp only [List.cons.injEq, and_true] at e0 e4 e5
    subst e0 j0 j1 j2 j3 j4 n0 n1 n2 l0 l1 l2 e4 e5
    exact ⟨⟨p0, j, nd, l, p4, p5⟩, rfl, by simp [jp, np, lp], u0, jw, nw, lw, u4, u5⟩
set_option maxRecDepth 100000 in
theorem open_request {r : Reach} {b0 : Nat} {v : Value} {d : DataW H} {ps : List MemPlace} (hv : Value.okWide Tryz.prog w r b0 44 v) (h : DataW.Trod enc Tryz.prog w base spare held 44 v d ps) :
    ∃ q : ReqD, v = .agg #[.int .i64 q.kind, .string q.job.name, .int .i64 q.job.prio, .int .i64 q.job.need, .int .i64 q.job.tries, .string q.job.tag, .string q.node.name, .int .i64 q.node.room, .string q.node.zone, .string q.lease.job, .string q.lease.node, .int .i64 q.lease.til, .string q.name, .int .i64 q.n] ∧ ps = [] ∧ wReq q := by
  obtain ⟨cs, rfl, hsz⟩ := okWide_struct Tryz.underlying44 hv
  obtain ⟨fuel, hf⟩ := h
  obtain ⟨q, hq, hp, hw⟩ := tread_req (cs := cs.toList) hf
  refine ⟨q, ?_, hp, hw⟩
  congr 1
  apply Array.ext'
  rw [hq]
end
end Go.Proofs.YthpgkfonbmffdaaGreatDoor
