/- Package req: Check at a request of no kind. -/
import Derived.Test.YthpgkfonbmffdaaGreatDoorRqPay
namespace Go.Proofs.YthpgkfonbmffdaaGreatDoor
open Go.RowKit Go.Lib

set_option maxRecDepth 100000 in
set_option maxHeartbeats 4000000 in
theorem qcheck0_is (k : Int) (hk : ¬ (1 ≤ k ∧ k ≤ 9)) (j : JobD) (n : NodeD) (l : LeaseD) (nm : ByteArray) (N : Int) (w : World) :
    Calls Tryz.prog 110 #[.agg #[.int .i64 k, .string j.name, .int .i64 j.prio, .int .i64 j.need, .int .i64 j.tries, .string j.tag, .string n.name, .int .i64 n.room, .string n.zone, .string l.job, .string l.node, .int .i64 l.til, .string nm, .int .i64 N]] w fun e w' => e = .returned (.int .i64 1) ∧ Below w.heap.size w w' := by
  have HP := Lib.hid (pay0_is k hk j n l nm N (w.alloc (.cells #[.int .i64 k, .string j.name, .int .i64 j.prio, .int .i64 j.need, .int .i64 j.tries, .string j.tag, .string n.name, .int .i64 n.room, .string n.zone, .string l.job, .string l.node, .int .i64 l.til, .string nm, .int .i64 N] 44)))
  have B := Lib.hid (below_one w (.cells #[.int .i64 k, .string j.name, .int .i64 j.prio, .int .i64 j.need, .int .i64 j.tries, .string j.tag, .string n.name, .int .i64 n.room, .string n.zone, .string l.job, .string l.node, .int .i64 l.til, .string nm, .int .i64 N] 44))
  clear hk
  go_enter Tryz.func110, Tryz.ntmps110
  go_wp2_with fail
  refine HP.out.mono ?_
  rintro e w1 ⟨rfl, x1⟩
  go_wp2
  go_ret
  exact ⟨rfl, below_trans B.out x1 (by simp)⟩
theorem qnone_is (w : World) : Calls Tryz.prog 110 #[.agg #[.int .i64 0, .string ⟨#[]⟩, .int .i64 0, .int .i64 0, .int .i64 0, .string ⟨#[]⟩, .string ⟨#[]⟩, .int .i64 0, .string ⟨#[]⟩, .string ⟨#[]⟩, .string ⟨#[]⟩, .int .i64 0, .string ⟨#[]⟩, .int .i64 0]] w fun e w' => e = .returned (.int .i64 1) ∧ Below w.heap.size w w' := qcheck0_is 0 (by omega) zJob zNode zLease ⟨#[]⟩ 0 w
end Go.Proofs.YthpgkfonbmffdaaGreatDoor
