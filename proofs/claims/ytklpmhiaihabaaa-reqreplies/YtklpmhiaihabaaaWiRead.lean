/- The reference's read: what is thrown is caught. -/
import Derived.Test.YtklpmhiaihabaaaWiRBody
import Derived.Defers
import Derived.Recover
namespace Go.Proofs.Ytklpmhiaihabaaa
open Go.RowKit

theorem catch_idle (E : Nat) (w : World) :
    CallsD Try.prog 56 #[.pointer (some ⟨E, 0, none⟩)] .returning w fun e u' w' => e = .returned (.tuple #[]) ∧ u' = .returning ∧ w' = w := by
  refine callsD_of_wpS Try.func56 rfl fun c₀ cs hu => ?_
  apply wpS_seq
  apply wpS_region
  simp [wpOpsS, go_sem, recoverD, hu, Try.ntmps56, Exit.thenS]
  refine wpS_of_wp ?_
  have et : (#[Value.pointer (some ⟨E, 0, none⟩)] ++ ((Array.replicate 16 undef).setIfInBounds 3 Value.nilIface).setIfInBounds 0 Value.nilIface : Array Value) = #[.pointer (some ⟨E, 0, none⟩), .nilIface, undef, undef, .nilIface, undef, undef, undef, undef, undef, undef, undef, undef, undef, undef, undef, undef] := by rfl
  rw [et]
  have hnil : ∀ w : World, (binOp BinOp.neq 20 .nilIface .nilIface).run Try.prog w = .ok (.bool false) w := fun _ => by kernel_rfl
  go_wp2
  exact ⟨rfl, .returning, by cases c₀; simp_all, .tuple #[], results_none rfl _ _ _, rfl, rfl, rfl⟩
set_option maxRecDepth 100000 in
theorem catch_taken (E : Nat) (e0 : Int) (e : Nat) (older : List PanicEntry) (w : World) (hc : w.cell? ⟨E, 0, none⟩ = some (.int .i64 e0)) (hz : w.frozen? ⟨E, 0, none⟩ = false) (hl : E < w.heap.size) :
    CallsD Try.prog 56 #[.pointer (some ⟨E, 0, none⟩)] (.panicking ({ v := .iface 76 (.agg #[.int .i64 (e : Int)]), recovered := false } :: older)) w fun r u' w' =>
      r = .returned (.tuple #[]) ∧ u' = .panicking ({ v := .iface 76 (.agg #[.int .i64 (e : Int)]), recovered := true } :: older) ∧ w' = (w.setCell ⟨E, 0, none⟩ (.int .i64 (e : Int))).alloc (.cells #[.int .i64 (e : Int)] 76) := by
  refine callsD_of_wpS Try.func56 rfl fun c₀ cs hu => ?_
  apply wpS_seq
  apply wpS_region
  simp [wpOpsS, go_sem, recoverD, hu, Try.ntmps56, Exit.thenS]
  refine wpS_of_wp ?_
  have et : (#[Value.pointer (some ⟨E, 0, none⟩)] ++ ((Array.replicate 16 undef).setIfInBounds 3 (Value.iface 76 (.agg #[.int .i64 (e : Int)]))).setIfInBounds 0 (Value.iface 76 (.agg #[.int .i64 (e : Int)])) : Array Value) = #[.pointer (some ⟨E, 0, none⟩), .iface 76 (.agg #[.int .i64 (e : Int)]), undef, undef, .iface 76 (.agg #[.int .i64 (e : Int)]), undef, undef, undef, undef, undef, undef, undef, undef, undef, undef, undef, undef] := by rfl
  rw [et]
  have hne : ∀ w : World, (binOp BinOp.neq 20 (.iface 76 (.agg #[.int .i64 (e : Int)])) .nilIface).run Try.prog w = .ok (.bool true) w := fun _ => by kernel_rfl
  have hta : ∀ w : World, (Instr.typeAssert (.iface 76 (.agg #[.int .i64 (e : Int)])) 20 76 true).run Try.prog w = .ok (.tuple #[.agg #[.int .i64 (e : Int)], .bool true]) w := fun _ => by kernel_rfl
  have hlt : ¬ E = w.heap.size := by omega
  have hlt' : ¬ w.heap.size = E := by omega
  go_wp2
  exact ⟨rfl, _, rfl, .tuple #[], results_none rfl _ _ _, rfl, rfl, rfl⟩
/-- What read answers: an error, or the state lies there. -/
def ReadP (v : Int) (c : Nat) (l : List UInt8) (w : World) (r : Ending) (w' : World) : Prop := Keep2 c c w w' ∧ ((∃ e : Nat, stR V8 v l = .inl e ∧ r = .returned (.int .i64 (e : Int))) ∨ (∃ s l' d1 d2 d3 p1 p2 p3, stR V8 v l = .inr (s, l') ∧ r = .returned (.int .i64 (if l' = [] then 0 else 4)) ∧
  ObjAt c #[.int .i64 s.rev, .slice d1 s.jobs.length p1, .slice d2 s.nodes.length p2, .slice d3 s.leases.length p3] 141 w' ∧
  w'.ownsRow w.heap.size 23 5 (.slice d1 s.jobs.length p1) s.jobs.length (cJobs s.jobs) ∧ w'.ownsRow w.heap.size 25 3 (.slice d2 s.nodes.length p2) s.nodes.length (cNodes s.nodes) ∧ w'.ownsRow w.heap.size 27 3 (.slice d3 s.leases.length p3) s.leases.length (cLeases s.leases)))
theorem k2_new {b c : Nat} {w W w' : World} (hB : Below w.heap.size w W) (hk : Keep2 b c W w') (hb : w.heap.size ≤ b) : Keep2 c c w w' :=
  ⟨hk.os.trans hB.os, hk.tape.trans hB.tape, hk.output.trans hB.output, Nat.le_trans hB.size hk.size, fun i hi hc _ => (hk.block i (Nat.lt_of_lt_of_le hi hB.size) (by omega) hc).trans (hB.block i hi)⟩
theorem k2_fresh {c d : Nat} {w w' : World} (hk : Keep2 c c w w') (hd : w.heap.size ≤ d) (j : Nat) (u : Value) : Keep2 c c w (w'.setCell ⟨d, j, none⟩ u) :=
  ⟨hk.os, hk.tape, hk.output, by simpa [World.setCell] using hk.size, fun i hi hc _ => by
    rw [Below.heap_setCell w' ⟨d, j, none⟩ u i (by show i ≠ d; omega)]
    exact hk.block i hi hc hc⟩
theorem k2_alloc {c : Nat} {w w' : World} (hk : Keep2 c c w w') (o : Obj) : Keep2 c c w (w'.alloc o) :=
  ⟨hk.os, hk.tape, hk.output, by rw [World.size_alloc]; have := hk.size; omega, fun i hi hc _ => by
    rw [(below_one w' o).block i (Nat.lt_of_lt_of_le hi hk.size)]
    exact hk.block i hi hc hc⟩
end Go.Proofs.Ytklpmhiaihabaaa
