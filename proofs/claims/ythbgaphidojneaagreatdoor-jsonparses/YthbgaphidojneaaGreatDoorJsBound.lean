/- Sizes of numbers and of the JSON form (no program). -/
import Derived.Test.YthbgaphidojneaaGreatDoorJsState
namespace Go.Proofs.YthbgaphidojneaaGreatDoor

/-- What the reader's numbers may be. -/
def small18 (n : Int) : Prop := -1000000000000000000 < n ∧ n < 1000000000000000000
theorem digZ_len {n : Int} (h : small18 n) : (digZ n).length ≤ 19 := by
  unfold small18 at h
  unfold digZ
  split
  · have := digN_len 17 (-n).toNat (by omega)
    simp only [List.length_cons]; omega
  · have := digN_len 17 n.toNat (by omega)
    omega
theorem list_len {α : Type} {g : α → List UInt8} {k : Nat} (xs : List α) (h : ∀ x ∈ xs, (g x).length ≤ k) : (listL g xs).length ≤ xs.length * (k + 1) + 1 := by
  have tail : ∀ xs : List α, (∀ x ∈ xs, (g x).length ≤ k) → (tailL g xs).length ≤ xs.length * (k + 1) + 1 := by
    intro xs
    induction xs with
    | nil => intro _; simp [tailL]
    | cons x xs ih =>
      intro hx
      have h1 := hx x (List.mem_cons_self ..)
      have h2 := ih (fun y hy => hx y (List.mem_cons_of_mem _ hy))
      simp only [tailL, List.length_cons, List.length_append]
      rw [Nat.add_mul]
      omega
  cases xs with
  | nil => simp [listL]
  | cons x xs =>
    have h1 := h x (List.mem_cons_self ..)
    have h2 := tail xs (fun y hy => h y (List.mem_cons_of_mem _ hy))
    simp only [listL, List.length_cons, List.length_append]
    rw [Nat.add_mul]
    omega
theorem note16 {U : ByteArray → Bool} {s : ByteArray} (h : isNote U s = true) : s.size ≤ 16 := by
  simp only [isNote, Bool.and_eq_true, decide_eq_true_eq] at h
  exact h.1
theorem name16 {U : ByteArray → Bool} {s : ByteArray} (h : isName U s = true) : s.size ≤ 16 := by
  simp only [isName, Bool.and_eq_true] at h
  exact note16 h.2
theorem valid_job {U : ByteArray → Bool} {s : StD} (h : Valid U s) {j : JobD} (hm : j ∈ s.jobs) : j.name.size ≤ 16 ∧ small18 j.prio ∧ small18 j.need ∧ small18 j.tries ∧ j.tag.size ≤ 16 := by
  obtain ⟨_, _, ⟨hj, _⟩, _⟩ := h
  have z := (jobE_zero U j).1 (hj j hm)
  exact ⟨name16 z.1.1, ⟨by omega, by omega⟩, ⟨by omega, by omega⟩, ⟨by omega, by omega⟩, note16 z.1.2⟩
theorem valid_node {U : ByteArray → Bool} {s : StD} (h : Valid U s) {n : NodeD} (hm : n ∈ s.nodes) : n.name.size ≤ 16 ∧ small18 n.room ∧ n.zone.size ≤ 16 := by
  obtain ⟨_, _, _, ⟨hn, _⟩, _⟩ := h
  have z := (nodeE_zero U n).1 (hn n hm)
  exact ⟨name16 z.1.1, ⟨by omega, by omega⟩, note16 z.1.2⟩
theorem valid_lease {U : ByteArray → Bool} {s : StD} (h : Valid U s) {l : LeaseD} (hm : l ∈ s.leases) : l.job.size ≤ 16 ∧ l.node.size ≤ 16 ∧ small18 l.til := by
  have h0 := h
  obtain ⟨_, _, _, _, ⟨hl, _⟩, _⟩ := h
  have z := (leaseE_zero _ _ _).1 (hl l hm)
  obtain ⟨z1, z2, z3⟩ := z
  unfold hasJob at z1
  unfold hasNode at z2
  obtain ⟨j, hj, ej⟩ := List.any_eq_true.1 z1
  obtain ⟨n, hn, en⟩ := List.any_eq_true.1 z2
  have ej := of_decide_eq_true ej
  have en := of_decide_eq_true en
  exact ⟨by rw [← ej]; exact (valid_job h0 hj).1, by rw [← en]; exact (valid_node h0 hn).1, ⟨by omega, by omega⟩⟩
theorem jobJ_len {x : JobD} (h : x.name.size ≤ 16 ∧ small18 x.prio ∧ small18 x.need ∧ small18 x.tries ∧ x.tag.size ≤ 16) : (jobJ x).length ≤ 300 := by
  obtain ⟨z1, z2, z3, z4, z5⟩ := h
  have a := quote_len x.name z1
  have b := quote_len x.tag z5
  have c := digZ_len z2
  have d := digZ_len z3
  have e := digZ_len z4
  simp only [jobJ, List.length_append, List.length_cons, List.length_nil]
  omega
theorem nodeJ_len {x : NodeD} (h : x.name.size ≤ 16 ∧ small18 x.room ∧ x.zone.size ≤ 16) : (nodeJ x).length ≤ 300 := by
  obtain ⟨z1, z2, z3⟩ := h
  have a := quote_len x.name z1
  have b := quote_len x.zone z3
  have c := digZ_len z2
  simp only [nodeJ, List.length_append, List.length_cons, List.length_nil]
  omega
theorem leaseJ_len {x : LeaseD} (h : x.job.size ≤ 16 ∧ x.node.size ≤ 16 ∧ small18 x.til) : (leaseJ x).length ≤ 300 := by
  obtain ⟨z1, z2, z3⟩ := h
  have a := quote_len x.job z1
  have b := quote_len x.node z2
  have c := digZ_len z3
  simp only [leaseJ, List.length_append, List.length_cons, List.length_nil]
  omega
theorem stJ_len {U : ByteArray → Bool} {s : StD} (h : Valid U s) : (stJ s).length ≤ 31000 := by
  have hv := h
  obtain ⟨h1, ⟨n1, n2, n3⟩, _⟩ := h
  have lj := list_len (g := jobJ) (k := 300) s.jobs (fun j hm => jobJ_len (valid_job hv hm))
  have ln := list_len (g := nodeJ) (k := 300) s.nodes (fun n hm => nodeJ_len (valid_node hv hm))
  have ll := list_len (g := leaseJ) (k := 300) s.leases (fun l hm => leaseJ_len (valid_lease hv hm))
  have r := digZ_len (n := s.rev) ⟨by omega, by omega⟩
  simp only [stJ, List.length_append, List.length_cons, List.length_nil]
  omega
end Go.Proofs.YthbgaphidojneaaGreatDoor
