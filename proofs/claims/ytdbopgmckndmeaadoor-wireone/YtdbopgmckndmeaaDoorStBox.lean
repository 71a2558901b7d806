/- Small functions of states: bounds, keys; a block of cells kept behind calls. -/
import Derived.Test.YtdbopgmckndmeaaDoorStTab
import Derived.Test.YtdbopgmckndmeaaDoorStArg
import Derived.WalkKit
import Derived.WalkSpells
import Derived.ProofKit
import Derived.Below
import Derived.Lib.Hide
import Derived.RegionTactic
import Derived.BigRegion
namespace Go.Proofs.YtdbopgmckndmeaaDoor
open Go.RowKit

/-- The cells of one block, as they lie. -/
def Box (b : Nat) (vs : List Value) (w : World) : Prop := (∀ j v, vs[j]? = some v → w.cell? ⟨b, j, none⟩ = some v) ∧ b < w.heap.size
theorem box_next {b : Nat} {vs : List Value} {w w' : World} (h : Box b vs w) (hb : Below w.heap.size w w') : Box b vs w' :=
  ⟨fun j v hj => by rw [hb.cell (p := ⟨b, j, none⟩) h.2]; exact h.1 j v hj, Nat.lt_of_lt_of_le h.2 hb.size⟩
theorem Box.drew {b : Nat} {vs : List Value} {w : World} (h : Box b vs w) : Box b vs w.drew := h
theorem box_alloc {b : Nat} {vs : List Value} {w : World} (h : Box b vs w) (o : Obj) : Box b vs (w.alloc o) := box_next h ((Below.refl _ _).alloc (Nat.le_refl _) _)
theorem box_grown {b : Nat} {vs : List Value} {w w' : World} {row : Option Nat} (h : Box b vs w) (hg : w.grownBy w' row) (hne : some b ≠ row) : Box b vs w' :=
  ⟨fun j v hj => by rw [World.cell?_of_block (w := w) (a := ⟨b, j, none⟩) (hg.block b h.2 hne)]; exact h.1 j v hj, Nat.lt_of_lt_of_le h.2 hg.size⟩
theorem box_new2 (w : World) (a b : Value) (t : TypeId) : Box w.heap.size [a, b] (w.alloc (.cells #[a, b] t)) := by
  refine ⟨fun j v hj => ?_, by simp⟩
  match j with
  | 0 => simp at hj; subst hj; go_simp
  | 1 => simp at hj; subst hj; go_simp
  | j + 2 => simp at hj
theorem box_new3 (w : World) (a b c : Value) (t : TypeId) : Box w.heap.size [a, b, c] (w.alloc (.cells #[a, b, c] t)) := by
  refine ⟨fun j v hj => ?_, by simp⟩
  match j with
  | 0 => simp at hj; subst hj; go_simp
  | 1 => simp at hj; subst hj; go_simp
  | 2 => simp at hj; subst hj; go_simp
  | j + 3 => simp at hj
theorem box_new4 (w : World) (a b c d : Value) (t : TypeId) : Box w.heap.size [a, b, c, d] (w.alloc (.cells #[a, b, c, d] t)) := by
  refine ⟨fun j v hj => ?_, by simp⟩
  match j with
  | 0 => simp at hj; subst hj; go_simp
  | 1 => simp at hj; subst hj; go_simp
  | 2 => simp at hj; subst hj; go_simp
  | 3 => simp at hj; subst hj; go_simp
  | j + 4 => simp at hj
theorem box_new5 (w : World) (a b c d e : Value) (t : TypeId) : Box w.heap.size [a, b, c, d, e] (w.alloc (.cells #[a, b, c, d, e] t)) := by
  refine ⟨fun j v hj => ?_, by simp⟩
  match j with
  | 0 => simp at hj; subst hj; go_simp
  | 1 => simp at hj; subst hj; go_simp
  | 2 => simp at hj; subst hj; go_simp
  | 3 => simp at hj; subst hj; go_simp
  | 4 => simp at hj; subst hj; go_simp
  | j + 5 => simp at hj
theorem below_trans {B : Nat} {w0 w1 w2 : World} (h : Below B w0 w1) (k : Below w1.heap.size w1 w2) (hB : B ≤ w1.heap.size) : Below B w0 w2 := h.trans (k.mono hB)
theorem below_one (w : World) (o : Obj) : Below w.heap.size w (w.alloc o) := (Below.refl _ _).alloc (Nat.le_refl _) _

theorem within_is (n lo hi : Int) (w : World) :
    Calls Tryd.prog 62 #[.int .i64 n, .int .i64 lo, .int .i64 hi] w fun e w' => e = .returned (.bool (inR n lo hi)) ∧ w = w' := by
  unfold inR
  by_cases h : lo ≤ n
  · have h1 : decide (lo ≤ n) = true := by simpa using h
    rw [h1, Bool.true_and]
    go_enter Tryd.func62, Tryd.ntmps62
    go_wp2
    go_ret
    exact ⟨rfl, rfl⟩
  · have h1 : decide (lo ≤ n) = false := by simpa using h
    rw [h1, Bool.false_and]
    go_enter Tryd.func62, Tryd.ntmps62
    go_wp2
    go_ret
    exact ⟨rfl, rfl⟩
def jobV (j : JobD) : Value := .agg #[.string j.name, .int .i64 j.prio, .int .i64 j.need, .int .i64 j.tries, .string j.tag]
def nodeV (n : NodeD) : Value := .agg #[.string n.name, .int .i64 n.room, .string n.zone]
def leaseV (l : LeaseD) : Value := .agg #[.string l.job, .string l.node, .int .i64 l.til]
theorem jobName_is (j : JobD) (w : World) : Calls Tryd.prog 65 #[.agg #[.string j.name, .int .i64 j.prio, .int .i64 j.need, .int .i64 j.tries, .string j.tag]] w fun e w' => e = .returned (.string j.name) ∧ Below w.heap.size w w' := by
  go_enter Tryd.func65, Tryd.ntmps65
  go_wp2
  go_ret
  exact ⟨rfl, below_one _ _⟩
theorem nodeName_is (j : NodeD) (w : World) : Calls Tryd.prog 68 #[.agg #[.string j.name, .int .i64 j.room, .string j.zone]] w fun e w' => e = .returned (.string j.name) ∧ Below w.heap.size w w' := by
  go_enter Tryd.func68, Tryd.ntmps68
  go_wp2
  go_ret
  exact ⟨rfl, below_one _ _⟩
theorem leaseJob_is (j : LeaseD) (w : World) : Calls Tryd.prog 72 #[.agg #[.string j.job, .string j.node, .int .i64 j.til]] w fun e w' => e = .returned (.string j.job) ∧ Below w.heap.size w w' := by
  go_enter Tryd.func72, Tryd.ntmps72
  go_wp2
  go_ret
  exact ⟨rfl, below_one _ _⟩
end Go.Proofs.YtdbopgmckndmeaaDoor
