/- The delta that takes all away (no program). -/
import Derived.Test.YthfbjmjohmkfjaaGreatDoorDlUse2
namespace Go.Proofs.YthfbjmjohmkfjaaGreatDoor

def allD (s : StD) : DelD := ⟨s.rev, s.rev + 1, [], [], [], s.jobs.map (·.name), s.nodes.map (·.name), s.leases.map (·.job)⟩
def bareS (k : Int) : StD := ⟨k, [], [], []⟩
theorem check_bare {k : Int} (hk : 0 ≤ k ∧ k ≤ 1099511627776) : checkE V8 (bareS k) = 0 :=
  (check_zero V8 _).2 ⟨hk, ⟨Nat.zero_le _, Nat.zero_le _, Nat.zero_le _⟩, ⟨(fun _ hx => nomatch hx), List.Pairwise.nil⟩, ⟨(fun _ hx => nomatch hx), List.Pairwise.nil⟩, ⟨(fun _ hx => nomatch hx), List.Pairwise.nil⟩, (fun _ hx => nomatch hx)⟩
theorem gone_bare {α : Type} (key : α → ByteArray) (a : List α) : goneL key a [] = a.map key := by
  unfold goneL
  rw [List.filter_eq_self.2 (fun x _ => by simp)]
theorem diff_bare (s : StD) : diffS s (bareS (s.rev + 1)) = allD s := by
  unfold diffS bareS allD
  simp only [gone_bare]
  rfl
theorem diff_all {s : StD} (h : checkE V8 s = 0) (hr : s.rev < 1099511627776) : diffR V8 s (bareS (s.rev + 1)) = (allD s, 0) := by
  have h0 := ((check_zero V8 s).1 h).1
  have := diffR_ok h (check_bare (k := s.rev + 1) (by omega)) (show s.rev < (bareS (s.rev + 1)).rev by show s.rev < s.rev + 1; omega)
  rw [this, diff_bare]
theorem apply_bare {s : StD} (h : checkE V8 s = 0) (hr : s.rev < 1099511627776) : applyR V8 s (allD s) = (bareS (s.rev + 1), 0) := by
  have h0 := ((check_zero V8 s).1 h).1
  have := apply_back h (check_bare (k := s.rev + 1) (by omega)) (show s.rev < (bareS (s.rev + 1)).rev by show s.rev < s.rev + 1; omega)
  rwa [diff_bare] at this
theorem lenD_all {s : StD} (h : checkE V8 s = 0) : LenD (allD s) := by
  have := (valid_facts h).2.1
  unfold LenD allD
  simp only [List.length_map, List.length_nil]
  omega
theorem wDelta_all {s : StD} (hw : wState s) (hr : 0 ≤ s.rev ∧ s.rev < 1099511627776) : wDelta (allD s) := by
  refine ⟨⟨hw.1, ?_⟩, ⟨fun x hx => (by cases hx), fun x hx => (by cases hx), fun x hx => (by cases hx)⟩, fun x hx => ?_, fun x hx => ?_, fun x hx => ?_⟩
  · show (Lit.int .i64 (s.rev + 1)).wf = true
    simp [Lit.wf, IntKind.min, IntKind.max, IntKind.signed, IntKind.bits]; omega
  · obtain ⟨j, hj, rfl⟩ := List.mem_map.1 hx; exact (hw.2.1 j hj).1
  · obtain ⟨j, hj, rfl⟩ := List.mem_map.1 hx; exact (hw.2.2.1 j hj).1
  · obtain ⟨j, hj, rfl⟩ := List.mem_map.1 hx; exact (hw.2.2.2 j hj).1
theorem map_takeN {α β : Type} (f : α → β) (l : List α) {i : Nat} (hi : i < l.length) : (l.take (i + 1)).map f = (l.take i).map f ++ [f l[i]] := by
  rw [List.take_succ_eq_append_getElem hi, List.map_append]; rfl
end Go.Proofs.YthfbjmjohmkfjaaGreatDoor
