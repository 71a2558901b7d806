/- Package delta: Diff at every two states. -/
import Derived.Test.YtheolakkicagkaaGreatDoorPkUp4
import Derived.Test.YtheolakkicagkaaGreatDoorDlComp
import Derived.Test.YtheolakkicagkaaGreatDoorPkDl3
namespace Go.Proofs.YtheolakkicagkaaGreatDoor
open Go.RowKit

theorem valid_facts {s : StD} (h : checkE V8 s = 0) : (Asc (·.name) s.jobs ∧ Asc (·.name) s.nodes ∧ Asc (·.job) s.leases) ∧ (s.jobs.length ≤ 40 ∧ s.nodes.length ≤ 20 ∧ s.leases.length ≤ 40) ∧ (∀ x ∈ s.jobs, x.name.size ≤ maxLen) ∧ (∀ x ∈ s.nodes, x.name.size ≤ maxLen) ∧ ∀ x ∈ s.leases, x.job.size ≤ maxLen := by
  have hv := (check_zero V8 s).1 h
  obtain ⟨_, hz⟩ := small_valid h
  obtain ⟨_, ⟨l1, l2, l3⟩, ⟨_, a1⟩, ⟨_, a2⟩, ⟨_, a3⟩, _⟩ := hv
  exact ⟨⟨a1, a2, a3⟩, ⟨l1, l3, l2⟩, fun x hx => (by have := (hz.1 x hx).1; unfold maxLen; omega), fun x hx => (by have := (hz.2.1 x hx).1; unfold maxLen; omega), fun x hx => (by have := (hz.2.2 x hx).1; unfold maxLen; omega)⟩
theorem diffR_a {a b : StD} (h : checkE V8 a ≠ 0) : diffR V8 a b = (zeroDel, checkE V8 a) := by unfold diffR; rw [if_pos h]
theorem diffR_b {a b : StD} (h : checkE V8 a = 0) (h2 : checkE V8 b ≠ 0) : diffR V8 a b = (zeroDel, checkE V8 b) := by unfold diffR; rw [if_neg (by simp [h]), if_pos h2]
theorem diffR_rev {a b : StD} (h : checkE V8 a = 0) (h2 : checkE V8 b = 0) (hr : b.rev ≤ a.rev) : diffR V8 a b = (zeroDel, 1) := by unfold diffR; rw [if_neg (by simp [h]), if_neg (by simp [h2]), if_neg (by omega)]
end Go.Proofs.YtheolakkicagkaaGreatDoor
