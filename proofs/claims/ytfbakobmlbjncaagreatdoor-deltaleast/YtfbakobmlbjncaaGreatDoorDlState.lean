/- Plain facts on deltas of states (no program): what a valid delta is, Diff, Apply. -/
import Derived.Test.YtfbakobmlbjncaaGreatDoorDlPlain
import Derived.Test.YtfbakobmlbjncaaGreatDoorPkWi1
namespace Go.Proofs.YtfbakobmlbjncaaGreatDoor

structure DelD where
  frm : Int
  til : Int
  jobs : List JobD
  nodes : List NodeD
  leases : List LeaseD
  gj : List ByteArray
  gn : List ByteArray
  gl : List ByteArray
def zeroDel : DelD := ⟨0, 0, [], [], [], [], [], []⟩
section
variable (U : ByteArray → Bool)
def leaseCE (l : LeaseD) : Nat := if isName U l.job && isName U l.node then (if inR l.til 0 1099511627776 then 0 else 1) else 4
def goneE (has : ByteArray → Bool) : Option ByteArray → List ByteArray → Nat
  | _, [] => 0
  | p, x :: r => if isName U x then (if badO p x then 8 else if has x then 7 else goneE has (some x) r) else 4
def headDE (d : DelD) : Nat := if inR d.frm 0 1099511627776 && inR d.til (d.frm + 1) 1099511627776 then (if (d.jobs.length ≤ 40 ∧ d.leases.length ≤ 40 ∧ d.gj.length ≤ 40 ∧ d.gl.length ≤ 40) ∧ d.nodes.length ≤ 20 ∧ d.gn.length ≤ 20 then 0 else 2) else 1
def dcheckE (d : DelD) : Nat :=
  orE (headDE d) (orE (rowsE (jobE U) (·.name) none d.jobs) (orE (rowsE (nodeE U) (·.name) none d.nodes) (orE (rowsE (leaseCE U) (·.job) none d.leases) (orE (goneE U (hasJob d.jobs) none d.gj) (orE (goneE U (hasNode d.nodes) none d.gn) (goneE U (hasLease d.leases) none d.gl))))))
theorem goneE_zero (has : ByteArray → Bool) (p : Option ByteArray) (l : List ByteArray) : goneE U has p l = 0 ↔ (∀ x ∈ l, isName U x = true ∧ has x = false) ∧ (∀ q, p = some q → ∀ x ∈ l, lt q x) ∧ Asc id l := by
  induction l generalizing p with
  | nil => simp [goneE, Asc]
  | cons x r ih =>
    have hstep : goneE U has p (x :: r) = 0 ↔ isName U x = true ∧ badO p x = false ∧ has x = false ∧ goneE U has (some x) r = 0 := by
      rw [goneE]
      cases h1 : isName U x <;> cases h2 : badO p x <;> cases h3 : has x <;> simp
    rw [hstep, ih, badO_no]
    constructor
    · rintro ⟨h1, h2, h3, h4, h5, h6⟩
      refine ⟨?_, ?_, ?_⟩
      · intro y hy
        rcases List.mem_cons.1 hy with rfl | hy
        · exact ⟨h1, h3⟩
        · exact h4 y hy
      · intro q hq y hy
        rcases List.mem_cons.1 hy with rfl | hy
        · exact h2 q hq
        · exact lt_trans (h2 q hq) (h5 _ rfl y hy)
      · exact List.pairwise_cons.2 ⟨fun y hy => h5 _ rfl y hy, h6⟩
    · rintro ⟨h1, h2, h3⟩
      have h3 := List.pairwise_cons.1 h3
      refine ⟨(h1 x (by simp)).1, fun q hq => h2 q hq x (by simp), (h1 x (by simp)).2, fun y hy => h1 y (by simp [hy]), ?_, h3.2⟩
      intro q hq y hy
      simp only [Option.some.injEq] at hq
      subst hq
      exact h3.1 y hy
def ValidD (d : DelD) : Prop :=
  ((0 ≤ d.frm ∧ d.frm ≤ 1099511627776) ∧ d.frm < d.til ∧ d.til ≤ 1099511627776) ∧ ((d.jobs.length ≤ 40 ∧ d.leases.length ≤ 40 ∧ d.gj.length ≤ 40 ∧ d.gl.length ≤ 40) ∧ d.nodes.length ≤ 20 ∧ d.gn.length ≤ 20) ∧
  ((∀ j ∈ d.jobs, jobE U j = 0) ∧ Asc (·.name) d.jobs) ∧ ((∀ n ∈ d.nodes, nodeE U n = 0) ∧ Asc (·.name) d.nodes) ∧ ((∀ l ∈ d.leases, leaseCE U l = 0) ∧ Asc (·.job) d.leases) ∧
  ((∀ x ∈ d.gj, isName U x = true ∧ hasJob d.jobs x = false) ∧ Asc id d.gj) ∧ ((∀ x ∈ d.gn, isName U x = true ∧ hasNode d.nodes x = false) ∧ Asc id d.gn) ∧ ((∀ x ∈ d.gl, isName U x = true ∧ hasLease d.leases x = false) ∧ Asc id d.gl)
theorem dcheck_zero (d : DelD) : dcheckE U d = 0 ↔ ValidD U d := by
  unfold dcheckE ValidD
  rw [orE_zero, orE_zero, orE_zero, orE_zero, orE_zero, orE_zero, rowsE_zero, rowsE_zero, rowsE_zero, goneE_zero, goneE_zero, goneE_zero]
  have h1 : headDE d = 0 ↔ ((0 ≤ d.frm ∧ d.frm ≤ 1099511627776) ∧ d.frm < d.til ∧ d.til ≤ 1099511627776) ∧ ((d.jobs.length ≤ 40 ∧ d.leases.length ≤ 40 ∧ d.gj.length ≤ 40 ∧ d.gl.length ≤ 40) ∧ d.nodes.length ≤ 20 ∧ d.gn.length ≤ 20) := by
    unfold headDE
    by_cases h : (inR d.frm 0 1099511627776 && inR d.til (d.frm + 1) 1099511627776) = true
    · rw [if_pos h]
      rw [Bool.and_eq_true, inR_iff, inR_iff] at h
      split
      · rename_i k; exact ⟨fun _ => ⟨⟨h.1, by omega, h.2.2⟩, k⟩, fun _ => rfl⟩
      · rename_i k; exact ⟨fun e => absurd e (by omega), fun e => absurd e.2 k⟩
    · rw [if_neg h]
      rw [Bool.and_eq_true, inR_iff, inR_iff] at h
      exact ⟨fun k => absurd k (by omega), fun k => absurd ⟨k.1.1, by omega, k.1.2.2⟩ h⟩
  rw [h1]
  simp only [reduceCtorEq, false_implies, implies_true, true_and, and_assoc]
theorem leaseCE_zero (l : LeaseD) : leaseCE U l = 0 ↔ (isName U l.job = true ∧ isName U l.node = true) ∧ 0 ≤ l.til ∧ l.til ≤ 1099511627776 := by
  unfold leaseCE
  by_cases h : (isName U l.job && isName U l.node) = true
  · rw [if_pos h]
    rw [Bool.and_eq_true] at h
    by_cases h2 : inR l.til 0 1099511627776 = true
    · rw [if_pos h2]; rw [inR_iff] at h2; exact ⟨fun _ => ⟨h, h2⟩, fun _ => rfl⟩
    · rw [if_neg h2]; rw [inR_iff] at h2; exact ⟨fun e => absurd e (by omega), fun e => absurd e.2 h2⟩
  · rw [if_neg h]
    rw [Bool.and_eq_true] at h
    exact ⟨fun e => absurd e (by omega), fun e => absurd e.1 h⟩
end
/-- The delta between two states; a state with a delta applied. -/
noncomputable def diffS (a b : StD) : DelD := ⟨a.rev, b.rev, newL a.jobs b.jobs, newL a.nodes b.nodes, newL a.leases b.leases, goneL (·.name) a.jobs b.jobs, goneL (·.name) a.nodes b.nodes, goneL (·.job) a.leases b.leases⟩
noncomputable def applyS (s : StD) (d : DelD) : StD := ⟨d.til, applyL (·.name) s.jobs d.gj d.jobs, applyL (·.name) s.nodes d.gn d.nodes, applyL (·.job) s.leases d.gl d.leases⟩
section
variable {U : ByteArray → Bool}
theorem apply_diffS {a b : StD} (ha : Valid U a) (hb : Valid U b) : applyS a (diffS a b) = b := by
  obtain ⟨_, _, ⟨_, a1⟩, ⟨_, a2⟩, ⟨_, a3⟩, _⟩ := ha
  obtain ⟨_, _, ⟨_, b1⟩, ⟨_, b2⟩, ⟨_, b3⟩, _⟩ := hb
  unfold applyS diffS
  simp only
  rw [apply_diff a1 b1, apply_diff a2 b2, apply_diff a3 b3]
theorem new_length {α : Type} (a b : List α) : (newL a b).length ≤ b.length := List.length_filter_le _ _
theorem gone_length {α : Type} (key : α → ByteArray) (a b : List α) : (goneL key a b).length ≤ a.length := by
  unfold goneL; rw [List.length_map]; exact List.length_filter_le _ _
theorem valid_diff {a b : StD} (ha : Valid U a) (hb : Valid U b) (hr : a.rev < b.rev) : ValidD U (diffS a b) := by
  have hb' := hb
  have ha' := ha
  obtain ⟨ra, ⟨la1, la2, la3⟩, ⟨aj, aj'⟩, ⟨an, an'⟩, ⟨al, al'⟩, _⟩ := ha
  obtain ⟨rb, ⟨lb1, lb2, lb3⟩, ⟨bj, bj'⟩, ⟨bn, bn'⟩, ⟨bl, bl'⟩, _⟩ := hb
  have n1 := new_length a.jobs b.jobs
  have n2 := new_length a.nodes b.nodes
  have n3 := new_length a.leases b.leases
  have g1 := gone_length (·.name) a.jobs b.jobs
  have g2 := gone_length (·.name) a.nodes b.nodes
  have g3 := gone_length (·.job) a.leases b.leases
  -- a lease's two names are names of a job and of a node
  have leaseN : ∀ {s : StD}, Valid U s → ∀ l ∈ s.leases, (isName U l.job = true ∧ isName U l.node = true) ∧ 0 ≤ l.til ∧ l.til ≤ 1099511627776 := by
    intro s hs l hl
    obtain ⟨_, _, ⟨sj, _⟩, ⟨sn, _⟩, ⟨sl, _⟩, _⟩ := hs
    have z := (leaseE_zero _ _ _).1 (sl l hl)
    obtain ⟨j, hj, e1⟩ := (hasJob_iff _ _).1 z.1
    obtain ⟨n, hn, e2⟩ := (hasNode_iff _ _).1 z.2.1
    have z1 := (jobE_zero U j).1 (sj j hj)
    have z2 := (nodeE_zero U n).1 (sn n hn)
    exact ⟨⟨by rw [← e1]; exact z1.1.1, by rw [← e2]; exact z2.1.1⟩, z.2.2⟩
  refine ⟨⟨ra, hr, rb.2⟩, ⟨⟨Nat.le_trans n1 lb1, Nat.le_trans n3 lb2, Nat.le_trans g1 la1, Nat.le_trans g3 la2⟩, Nat.le_trans n2 lb3, Nat.le_trans g2 la3⟩, ⟨fun j hj => bj j ((new_mem _ _ _).1 hj).1, new_asc bj'⟩, ⟨fun n hn => bn n ((new_mem _ _ _).1 hn).1, new_asc bn'⟩, ⟨fun l hl => (leaseCE_zero U l).2 (leaseN hb' l ((new_mem _ _ _).1 hl).1), new_asc bl'⟩, ⟨fun x hx => ?_, gone_asc aj' _⟩, ⟨fun x hx => ?_, gone_asc an' _⟩, ⟨fun x hx => ?_, gone_asc al' _⟩⟩
  · obtain ⟨j, hj, e, hne⟩ := (gone_mem _ _ _).1 hx
    refine ⟨by rw [← e]; exact ((jobE_zero U j).1 (aj j hj)).1.1, ?_⟩
    cases h : hasJob (newL a.jobs b.jobs) x with
    | false => exact h
    | true =>
      obtain ⟨y, hy, e2⟩ := (hasJob_iff _ _).1 h
      exact absurd e2 (hne y ((new_mem _ _ _).1 hy).1)
  · obtain ⟨j, hj, e, hne⟩ := (gone_mem _ _ _).1 hx
    refine ⟨by rw [← e]; exact ((nodeE_zero U j).1 (an j hj)).1.1, ?_⟩
    cases h : hasNode (newL a.nodes b.nodes) x with
    | false => exact h
    | true =>
      obtain ⟨y, hy, e2⟩ := (hasNode_iff _ _).1 h
      exact absurd e2 (hne y ((new_mem _ _ _).1 hy).1)
  · obtain ⟨j, hj, e, hne⟩ := (gone_mem _ _ _).1 hx
    refine ⟨by rw [← e]; exact (leaseN ha' j hj).1.1, ?_⟩
    cases h : hasLease (newL a.leases b.leases) x with
    | false => exact h
    | true =>
      obtain ⟨y, hy, e2⟩ := (hasLease_iff _ _).1 h
      exact absurd e2 (hne y ((new_mem _ _ _).1 hy).1)
/-- What is gone was there. -/
theorem gone_there {a b : StD} : (∀ x ∈ (diffS a b).gj, hasJob a.jobs x = true) ∧ (∀ x ∈ (diffS a b).gn, hasNode a.nodes x = true) ∧ ∀ x ∈ (diffS a b).gl, hasLease a.leases x = true := by
  refine ⟨fun x hx => ?_, fun x hx => ?_, fun x hx => ?_⟩
  · obtain ⟨j, hj, e, _⟩ := (gone_mem _ _ _).1 hx; exact (hasJob_iff _ _).2 ⟨j, hj, e⟩
  · obtain ⟨j, hj, e, _⟩ := (gone_mem _ _ _).1 hx; exact (hasNode_iff _ _).2 ⟨j, hj, e⟩
  · obtain ⟨j, hj, e, _⟩ := (gone_mem _ _ _).1 hx; exact (hasLease_iff _ _).2 ⟨j, hj, e⟩
end
end Go.Proofs.YtfbakobmlbjncaaGreatDoor
