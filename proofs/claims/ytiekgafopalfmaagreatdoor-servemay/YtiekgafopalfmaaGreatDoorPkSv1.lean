import Derived.Test.YtiekgafopalfmaaGreatDoorPkRq1
/- Plain facts on a server (no program): what a request makes of a state and a time. U stands for 'is valid UTF-8'. -/
namespace Go.Proofs.YtiekgafopalfmaaGreatDoor

/-! ### rows that are left -/
def jobsBut (x : ByteArray) (l : List JobD) : List JobD := l.filter fun j => !decide (j.name = x)
def nodesBut (x : ByteArray) (l : List NodeD) : List NodeD := l.filter fun j => !decide (j.name = x)
def leasesJ (x : ByteArray) (l : List LeaseD) : List LeaseD := l.filter fun j => !decide (j.job = x)
def leasesN (x : ByteArray) (l : List LeaseD) : List LeaseD := l.filter fun j => !decide (j.node = x)
def leasesT (t : Int) (l : List LeaseD) : List LeaseD := l.filter fun j => !decide (j.til ≤ t)
def jobOf : List JobD → ByteArray → JobD
  | [], _ => zJob
  | j :: r, x => if j.name = x then j else jobOf r x
def triedJ (j : JobD) : JobD := { j with tries := j.tries + 1 }
def SameRows (s t : StD) : Prop := s.jobs = t.jobs ∧ s.nodes = t.nodes ∧ s.leases = t.leases
structure SvD where
  s : StD
  now : Int
def delJ (x : ByteArray) (s : StD) : StD := ⟨s.rev, jobsBut x s.jobs, s.nodes, leasesJ x s.leases⟩
def delN (x : ByteArray) (s : StD) : StD := ⟨s.rev, s.jobs, nodesBut x s.nodes, leasesN x s.leases⟩
def freeS (x : ByteArray) (s : StD) : StD := ⟨s.rev, s.jobs, s.nodes, leasesJ x s.leases⟩
def tickS (t : Int) (s : StD) : StD := ⟨s.rev, s.jobs, s.nodes, leasesT t s.leases⟩
noncomputable def putJ (j : JobD) (s : StD) : StD := ⟨s.rev, putL (·.name) j s.jobs, s.nodes, s.leases⟩
noncomputable def putN (n : NodeD) (s : StD) : StD := ⟨s.rev, s.jobs, putL (·.name) n s.nodes, s.leases⟩
noncomputable def grantS (l : LeaseD) (s : StD) : StD := ⟨s.rev, putL (·.name) (triedJ (jobOf s.jobs l.job)) s.jobs, s.nodes, putL (·.job) l s.leases⟩
def bump (s : StD) : StD := ⟨s.rev + 1, s.jobs, s.nodes, s.leases⟩
section
variable (U : ByteArray → Bool)
/-- What an operation makes of a state and a time, and its error (0: none). -/
noncomputable def opR (s : StD) (now : Int) (q : ReqD) : SvD × Nat :=
  if q.kind = 1 then (⟨putJ q.job s, now⟩, checkE U (putJ q.job s))
  else if q.kind = 2 then (⟨putN q.node s, now⟩, checkE U (putN q.node s))
  else if q.kind = 3 then (if hasJob s.jobs q.name = true then (⟨delJ q.name s, now⟩, 0) else (⟨s, now⟩, 6))
  else if q.kind = 4 then (if hasNode s.nodes q.name = true then (⟨delN q.name s, now⟩, 0) else (⟨s, now⟩, 6))
  else if q.kind = 5 then (if (hasJob s.jobs q.lease.job && hasNode s.nodes q.lease.node) = true then (if hasLease s.leases q.lease.job = true then (⟨s, now⟩, 7) else if q.lease.til ≤ now then (⟨s, now⟩, 1) else if (jobOf s.jobs q.lease.job).tries = 100 then (⟨s, now⟩, 2) else (⟨grantS q.lease s, now⟩, checkE U (grantS q.lease s))) else (⟨s, now⟩, 6))
  else if q.kind = 6 then (if hasLease s.leases q.name = true then (⟨freeS q.name s, now⟩, 0) else (⟨s, now⟩, 6))
  else if q.kind = 7 then (if 1099511627776 < now + q.n then (⟨s, now⟩, 1) else (⟨tickS (now + q.n) s, now + q.n⟩, 0))
  else (⟨s, now⟩, 0)
noncomputable def runR (s : StD) (now : Int) (q : ReqD) : SvD × Nat := if qcheckE U q ≠ 0 then (⟨s, now⟩, qcheckE U q) else opR U s now q
open Classical in
/-- What a server is after a request, the Code, and whether the state has changed. -/
noncomputable def doR (s : StD) (now : Int) (q : ReqD) : SvD × Nat × Bool :=
  if (runR U s now q).2 ≠ 0 then (⟨s, now⟩, (runR U s now q).2, false)
  else if SameRows s (runR U s now q).1.s then (⟨s, (runR U s now q).1.now⟩, 0, false)
  else if s.rev = 1099511627776 then (⟨s, now⟩, 2, false)
  else (⟨bump (runR U s now q).1.s, (runR U s now q).1.now⟩, 0, true)
noncomputable def told (s : StD) (r : SvD × Nat × Bool) : DelD := if r.2.2 = true then diffS s r.1.s else zeroDel
end

section
variable {U : ByteArray → Bool}
theorem doR_err {s : StD} {now : Int} {q : ReqD} (h : (runR U s now q).2 ≠ 0) : doR U s now q = (⟨s, now⟩, (runR U s now q).2, false) := by unfold doR; rw [if_pos h]
theorem doR_same {s : StD} {now : Int} {q : ReqD} (h : (runR U s now q).2 = 0) (k : SameRows s (runR U s now q).1.s) : doR U s now q = (⟨s, (runR U s now q).1.now⟩, 0, false) := by unfold doR; rw [if_neg (by simp [h]), if_pos k]
theorem doR_full {s : StD} {now : Int} {q : ReqD} (h : (runR U s now q).2 = 0) (k : ¬ SameRows s (runR U s now q).1.s) (hr : s.rev = 1099511627776) : doR U s now q = (⟨s, now⟩, 2, false) := by unfold doR; rw [if_neg (by simp [h]), if_neg k, if_pos hr]
theorem doR_new {s : StD} {now : Int} {q : ReqD} (h : (runR U s now q).2 = 0) (k : ¬ SameRows s (runR U s now q).1.s) (hr : s.rev ≠ 1099511627776) : doR U s now q = (⟨bump (runR U s now q).1.s, (runR U s now q).1.now⟩, 0, true) := by unfold doR; rw [if_neg (by simp [h]), if_neg k, if_neg hr]
theorem runR_bad {s : StD} {now : Int} {q : ReqD} (h : qcheckE U q ≠ 0) : runR U s now q = (⟨s, now⟩, qcheckE U q) := by unfold runR; rw [if_pos h]
theorem runR_op {s : StD} {now : Int} {q : ReqD} (h : qcheckE U q = 0) : runR U s now q = opR U s now q := by unfold runR; rw [if_neg (by simp [h])]
theorem opR_1 {s : StD} {now : Int} {q : ReqD} (h : q.kind = 1) : opR U s now q = (⟨putJ q.job s, now⟩, checkE U (putJ q.job s)) := by unfold opR; rw [if_pos h]
theorem opR_2 {s : StD} {now : Int} {q : ReqD} (h : q.kind = 2) : opR U s now q = (⟨putN q.node s, now⟩, checkE U (putN q.node s)) := by unfold opR; rw [if_neg (by omega), if_pos h]
theorem opR_3 {s : StD} {now : Int} {q : ReqD} (h : q.kind = 3) : opR U s now q = if hasJob s.jobs q.name = true then (⟨delJ q.name s, now⟩, 0) else (⟨s, now⟩, 6) := by unfold opR; rw [if_neg (by omega), if_neg (by omega), if_pos h]
theorem opR_4 {s : StD} {now : Int} {q : ReqD} (h : q.kind = 4) : opR U s now q = if hasNode s.nodes q.name = true then (⟨delN q.name s, now⟩, 0) else (⟨s, now⟩, 6) := by unfold opR; rw [if_neg (by omega), if_neg (by omega), if_neg (by omega), if_pos h]
theorem opR_5 {s : StD} {now : Int} {q : ReqD} (h : q.kind = 5) : opR U s now q = (if (hasJob s.jobs q.lease.job && hasNode s.nodes q.lease.node) = true then (if hasLease s.leases q.lease.job = true then (⟨s, now⟩, 7) else if q.lease.til ≤ now then (⟨s, now⟩, 1) else if (jobOf s.jobs q.lease.job).tries = 100 then (⟨s, now⟩, 2) else (⟨grantS q.lease s, now⟩, checkE U (grantS q.lease s))) else (⟨s, now⟩, 6)) := by unfold opR; rw [if_neg (by omega), if_neg (by omega), if_neg (by omega), if_neg (by omega), if_pos h]
theorem opR_6 {s : StD} {now : Int} {q : ReqD} (h : q.kind = 6) : opR U s now q = if hasLease s.leases q.name = true then (⟨freeS q.name s, now⟩, 0) else (⟨s, now⟩, 6) := by unfold opR; rw [if_neg (by omega), if_neg (by omega), if_neg (by omega), if_neg (by omega), if_neg (by omega), if_pos h]
theorem opR_7 {s : StD} {now : Int} {q : ReqD} (h : q.kind = 7) : opR U s now q = if 1099511627776 < now + q.n then (⟨s, now⟩, 1) else (⟨tickS (now + q.n) s, now + q.n⟩, 0) := by unfold opR; rw [if_neg (by omega), if_neg (by omega), if_neg (by omega), if_neg (by omega), if_neg (by omega), if_neg (by omega), if_pos h]
theorem opR_8 {s : StD} {now : Int} {q : ReqD} (h : 8 ≤ q.kind) : opR U s now q = (⟨s, now⟩, 0) := by unfold opR; rw [if_neg (by omega), if_neg (by omega), if_neg (by omega), if_neg (by omega), if_neg (by omega), if_neg (by omega), if_neg (by omega)]

/-! ### what is left of a valid state is valid -/
theorem valid_sub {s : StD} (h : Valid U s) {J : List JobD} {N : List NodeD} {L : List LeaseD} (hJ : J.Sublist s.jobs) (hN : N.Sublist s.nodes) (hL : L.Sublist s.leases) (hl : ∀ l ∈ L, hasJob J l.job = true ∧ hasNode N l.node = true) : Valid U ⟨s.rev, J, N, L⟩ := by
  obtain ⟨hr, ⟨l1, l2, l3⟩, ⟨aj, aj'⟩, ⟨an, an'⟩, ⟨al, al'⟩, room⟩ := h
  have k1 := hJ.length_le
  have k2 := hN.length_le
  have k3 := hL.length_le
  refine ⟨hr, ⟨by simp only; omega, by simp only; omega, by simp only; omega⟩, ⟨fun j hj => aj j (hJ.subset hj), asc_sub aj' hJ⟩, ⟨fun j hj => an j (hN.subset hj), asc_sub an' hN⟩, ⟨fun l hx => ?_, asc_sub al' hL⟩, fun n hn => ?_⟩
  · have z := (leaseE_zero _ _ _).1 (al l (hL.subset hx))
    exact (leaseE_zero _ _ _).2 ⟨(hl l hx).1, (hl l hx).2, z.2.2⟩
  · have e : usedD J L n.name = usedD s.jobs L n.name := by
      refine sumZ_congr (fun l hx => ?_)
      unfold useOf
      obtain ⟨j, hj, ej⟩ := (hasJob_iff _ _).1 (hl l hx).1
      rw [← ej, needOf_mem (asc_sub aj' hJ) hj, needOf_mem aj' (hJ.subset hj)]
    show usedD J L n.name ≤ n.room
    rw [e]
    exact Int.le_trans (sumZ_sub hL (fun x _ => (useOf_bd (U := U) aj n.name x).1)) (room n (hN.subset hn))
theorem lease_has {s : StD} (h : Valid U s) {l : LeaseD} (hl : l ∈ s.leases) : hasJob s.jobs l.job = true ∧ hasNode s.nodes l.node = true := by
  have z := (leaseE_zero _ _ _).1 (h.2.2.2.2.1.1 l hl); exact ⟨z.1, z.2.1⟩
theorem valid_delJ {s : StD} (h : Valid U s) (x : ByteArray) : Valid U (delJ x s) := by
  refine valid_sub h List.filter_sublist (List.Sublist.refl _) List.filter_sublist (fun l hl => ?_)
  have hl' := List.mem_filter.1 hl
  have z := lease_has h hl'.1
  refine ⟨?_, z.2⟩
  obtain ⟨j, hj, e⟩ := (hasJob_iff _ _).1 z.1
  refine (hasJob_iff _ _).2 ⟨j, List.mem_filter.2 ⟨hj, ?_⟩, e⟩
  have := hl'.2
  simp only [Bool.not_eq_true', decide_eq_false_iff_not] at this ⊢
  rw [e]; exact this
theorem valid_delN {s : StD} (h : Valid U s) (x : ByteArray) : Valid U (delN x s) := by
  refine valid_sub h (List.Sublist.refl _) List.filter_sublist List.filter_sublist (fun l hl => ?_)
  have hl' := List.mem_filter.1 hl
  have z := lease_has h hl'.1
  refine ⟨z.1, ?_⟩
  obtain ⟨j, hj, e⟩ := (hasNode_iff _ _).1 z.2
  refine (hasNode_iff _ _).2 ⟨j, List.mem_filter.2 ⟨hj, ?_⟩, e⟩
  have := hl'.2
  simp only [Bool.not_eq_true', decide_eq_false_iff_not] at this ⊢
  rw [e]; exact this
theorem valid_free {s : StD} (h : Valid U s) (x : ByteArray) : Valid U (freeS x s) :=
  valid_sub h (List.Sublist.refl _) (List.Sublist.refl _) List.filter_sublist (fun _ hl => lease_has h (List.mem_filter.1 hl).1)
theorem valid_tick {s : StD} (h : Valid U s) (t : Int) : Valid U (tickS t s) :=
  valid_sub h (List.Sublist.refl _) (List.Sublist.refl _) List.filter_sublist (fun _ hl => lease_has h (List.mem_filter.1 hl).1)
theorem opR_valid {s : StD} (h : Valid U s) (now : Int) (q : ReqD) (hz : (opR U s now q).2 = 0) : Valid U (opR U s now q).1.s ∧ (opR U s now q).1.s.rev = s.rev := by
  by_cases k1 : q.kind = 1
  · rw [opR_1 k1] at hz ⊢; exact ⟨(check_zero U _).1 hz, rfl⟩
  by_cases k2 : q.kind = 2
  · rw [opR_2 k2] at hz ⊢; exact ⟨(check_zero U _).1 hz, rfl⟩
  by_cases k3 : q.kind = 3
  · rw [opR_3 k3] at hz ⊢
    split at hz
    · rename_i c; rw [if_pos c]; exact ⟨valid_delJ h _, rfl⟩
    · simp at hz
  by_cases k4 : q.kind = 4
  · rw [opR_4 k4] at hz ⊢
    split at hz
    · rename_i c; rw [if_pos c]; exact ⟨valid_delN h _, rfl⟩
    · simp at hz
  by_cases k5 : q.kind = 5
  · rw [opR_5 k5] at hz ⊢
    split at hz
    · rename_i c
      rw [if_pos c]
      split at hz
      · simp at hz
      · rename_i c2
        rw [if_neg c2]
        split at hz
        · simp at hz
        · rename_i c3
          rw [if_neg c3]
          split at hz
          · simp at hz
          · rename_i c4
            rw [if_neg c4]
            exact ⟨(check_zero U _).1 hz, rfl⟩
    · simp at hz
  by_cases k6 : q.kind = 6
  · rw [opR_6 k6] at hz ⊢
    split at hz
    · rename_i c; rw [if_pos c]; exact ⟨valid_free h _, rfl⟩
    · simp at hz
  by_cases k7 : q.kind = 7
  · rw [opR_7 k7] at hz ⊢
    split at hz
    · simp at hz
    · rename_i c; rw [if_neg c]; exact ⟨valid_tick h _, rfl⟩
  · have e : opR U s now q = (⟨s, now⟩, 0) := by unfold opR; rw [if_neg k1, if_neg k2, if_neg k3, if_neg k4, if_neg k5, if_neg k6, if_neg k7]
    rw [e]; exact ⟨h, rfl⟩
theorem runR_valid {s : StD} (h : Valid U s) (now : Int) (q : ReqD) (hz : (runR U s now q).2 = 0) : Valid U (runR U s now q).1.s ∧ (runR U s now q).1.s.rev = s.rev := by
  by_cases c : qcheckE U q = 0
  · rw [runR_op c] at hz ⊢; exact opR_valid h now q hz
  · rw [runR_bad c] at hz; exact absurd hz c
theorem valid_bump {s : StD} (h : Valid U s) (hr : s.rev ≠ 1099511627776) : Valid U (bump s) := by
  obtain ⟨hr1, r⟩ := h
  exact ⟨⟨by show 0 ≤ s.rev + 1; omega, by show s.rev + 1 ≤ _; omega⟩, r⟩
theorem doR_valid {s : StD} (h : Valid U s) (now : Int) (q : ReqD) : Valid U (doR U s now q).1.s := by
  by_cases c : (runR U s now q).2 = 0
  · have v := runR_valid h now q c
    by_cases k : SameRows s (runR U s now q).1.s
    · rw [doR_same c k]; exact h
    · by_cases hr : s.rev = 1099511627776
      · rw [doR_full c k hr]; exact h
      · rw [doR_new c k hr]; exact valid_bump v.1 (by rw [v.2]; exact hr)
  · rw [doR_err c]; exact h
theorem doR_rev {s : StD} (h : Valid U s) (now : Int) (q : ReqD) : (doR U s now q).1.s.rev = s.rev + (if (doR U s now q).2.2 = true then 1 else 0) := by
  by_cases c : (runR U s now q).2 = 0
  · have v := runR_valid h now q c
    by_cases k : SameRows s (runR U s now q).1.s
    · rw [doR_same c k]; simp
    · by_cases hr : s.rev = 1099511627776
      · rw [doR_full c k hr]; simp
      · rw [doR_new c k hr]; show (runR U s now q).1.s.rev + 1 = _; rw [v.2]; simp
  · rw [doR_err c]; simp
theorem runR_now {s : StD} (now : Int) (q : ReqD) (hz : (runR U s now q).2 = 0) : (runR U s now q).1.now = now ∨ (q.kind = 7 ∧ (runR U s now q).1.now = now + q.n ∧ 0 ≤ q.n ∧ now + q.n ≤ 1099511627776) := by
  by_cases c : qcheckE U q = 0
  · rw [runR_op c] at hz ⊢
    by_cases k1 : q.kind = 1
    · rw [opR_1 k1]; exact .inl rfl
    by_cases k2 : q.kind = 2
    · rw [opR_2 k2]; exact .inl rfl
    by_cases k3 : q.kind = 3
    · rw [opR_3 k3]; split <;> exact .inl rfl
    by_cases k4 : q.kind = 4
    · rw [opR_4 k4]; split <;> exact .inl rfl
    by_cases k5 : q.kind = 5
    · rw [opR_5 k5]; (repeat' split) <;> exact .inl rfl
    by_cases k6 : q.kind = 6
    · rw [opR_6 k6]; split <;> exact .inl rfl
    by_cases k7 : q.kind = 7
    · rw [opR_7 k7] at hz ⊢
      split at hz
      · simp at hz
      · rename_i c2
        rw [if_neg c2]
        have hn := ((qcheck_zero U q).1 c).2.2
        unfold partE at hn
        rw [if_neg k1, if_neg k2, if_neg k5, if_pos k7] at hn
        have : 0 ≤ q.n := by
          by_cases z : inR q.n 0 1099511627776 = true
          · exact ((inR_iff _ _ _).1 z).1
          · rw [if_neg z] at hn; simp at hn
        exact .inr ⟨k7, rfl, this, by omega⟩
    · have e : opR U s now q = (⟨s, now⟩, 0) := by unfold opR; rw [if_neg k1, if_neg k2, if_neg k3, if_neg k4, if_neg k5, if_neg k6, if_neg k7]
      rw [e]; exact .inl rfl
  · rw [runR_bad c] at hz; exact absurd hz c
theorem doR_now {s : StD} (now : Int) (q : ReqD) (h : 0 ≤ now ∧ now ≤ 1099511627776) : now ≤ (doR U s now q).1.now ∧ (doR U s now q).1.now ≤ 1099511627776 := by
  by_cases c : (runR U s now q).2 = 0
  · have v := runR_now now q c
    by_cases k : SameRows s (runR U s now q).1.s
    · rw [doR_same c k]; simp only; omega
    · by_cases hr : s.rev = 1099511627776
      · rw [doR_full c k hr]; simp only; omega
      · rw [doR_new c k hr]; simp only; omega
  · rw [doR_err c]; simp only; omega
theorem sv_told {s : StD} (h : Valid U s) (now : Int) (q : ReqD) (hc : (doR U s now q).2.2 = true) : applyR U s (diffS s (doR U s now q).1.s) = ((doR U s now q).1.s, 0) ∧ (doR U s now q).2.1 = 0 ∧ s.rev < (doR U s now q).1.s.rev := by
  have hr := doR_rev h now q
  rw [if_pos hc] at hr
  refine ⟨apply_back ((check_zero U s).2 h) ((check_zero U _).2 (doR_valid h now q)) (by omega), ?_, by omega⟩
  by_cases c : (runR U s now q).2 = 0
  · by_cases k : SameRows s (runR U s now q).1.s
    · rw [doR_same c k]
    · by_cases hr : s.rev = 1099511627776
      · rw [doR_full c k hr] at hc; cases hc
      · rw [doR_new c k hr]
  · rw [doR_err c] at hc; cases hc
theorem sv_quiet {s : StD} (now : Int) (q : ReqD) (hc : (doR U s now q).2.2 = false) : (doR U s now q).1.s = s := by
  by_cases c : (runR U s now q).2 = 0
  · by_cases k : SameRows s (runR U s now q).1.s
    · rw [doR_same c k]
    · by_cases hr : s.rev = 1099511627776
      · rw [doR_full c k hr]
      · rw [doR_new c k hr] at hc; cases hc
  · rw [doR_err c]
theorem sv_refused {s : StD} (now : Int) (q : ReqD) (hc : (doR U s now q).2.1 ≠ 0 ∨ q.kind = 8 ∨ q.kind = 9) : (doR U s now q).1 = ⟨s, now⟩ ∧ (doR U s now q).2.2 = false := by
  by_cases c : (runR U s now q).2 = 0
  · by_cases k : SameRows s (runR U s now q).1.s
    · rw [doR_same c k] at hc ⊢
      rcases hc with hc | hc
      · exact absurd rfl hc
      · rcases runR_now now q c with e | e
        · rw [e]; exact ⟨rfl, rfl⟩
        · omega
    · by_cases hr : s.rev = 1099511627776
      · rw [doR_full c k hr]; exact ⟨rfl, rfl⟩
      · rw [doR_new c k hr] at hc
        rcases hc with hc | hc
        · exact absurd rfl hc
        · exfalso
          apply k
          by_cases c2 : qcheckE U q = 0
          · rw [runR_op c2, opR_8 (by omega)]; exact ⟨rfl, rfl, rfl⟩
          · rw [runR_bad c2]; exact ⟨rfl, rfl, rfl⟩
  · rw [doR_err c]; exact ⟨rfl, rfl⟩
end
end Go.Proofs.YtiekgafopalfmaaGreatDoor

/- Plain facts on a server's laws (no program). -/
namespace Go.Proofs.YtiekgafopalfmaaGreatDoor

section
variable {α : Type} {key : α → ByteArray}
theorem put_in {l : List α} (h : Asc key l) (x : α) : x ∈ putL key x l := (put_mem h x x).2 (.inl rfl)
theorem put_self {l : List α} (h : Asc key l) {x : α} (hx : x ∈ l) : putL key x l = l := by
  refine asc_ext (put_asc h x) h (fun z => ?_)
  rw [put_mem h x z]
  constructor
  · rintro (rfl | ⟨a, _⟩)
    · exact hx
    · exact a
  · intro hz
    by_cases e : key z = key x
    · exact .inl (asc_one h hz hx e)
    · exact .inr ⟨hz, e⟩
theorem put_comm {l : List α} (h : Asc key l) {x y : α} (hn : key x ≠ key y) : putL key x (putL key y l) = putL key y (putL key x l) := by
  refine asc_ext (put_asc (put_asc h y) x) (put_asc (put_asc h x) y) (fun z => ?_)
  rw [put_mem (put_asc h y) x z, put_mem h y z, put_mem (put_asc h x) y z, put_mem h x z]
  constructor
  · rintro (rfl | ⟨rfl | ⟨a, b⟩, c⟩)
    · exact .inr ⟨.inl rfl, hn⟩
    · exact .inl rfl
    · exact .inr ⟨.inr ⟨a, c⟩, b⟩
  · rintro (rfl | ⟨rfl | ⟨a, b⟩, c⟩)
    · exact .inr ⟨.inl rfl, fun e => hn e.symm⟩
    · exact .inl rfl
    · exact .inr ⟨.inr ⟨a, c⟩, b⟩
theorem putL_same {l : List α} (h : Asc key l) (x : α) : putL key x l = l ↔ x ∈ l := ⟨fun e => by rw [← e]; exact put_in h x, put_self h⟩
theorem put_at : ∀ {l : List α}, Asc key l → ∀ (x : α) (i : Nat) (hi : i < l.length), key l[i] = key x → putL key x l = l.set i x
  | [], _, _, i, hi, _ => by simp at hi
  | y :: l, h, x, 0, _, e => by
    have e : key y = key x := e
    unfold putL
    rw [if_neg (by rw [e]; exact lt_irrefl _), if_pos e]; rfl
  | y :: l, h, x, i + 1, hi, e => by
    have h' := List.pairwise_cons.1 h
    have hi' : i < l.length := by simpa using hi
    have e' : key l[i] = key x := e
    unfold putL
    rw [if_pos (by rw [← e']; exact h'.1 _ (List.getElem_mem hi')), put_at h'.2 x i hi' e']; rfl
end
theorem jobOf_mem : ∀ {l : List JobD} {x : ByteArray}, hasJob l x = true → jobOf l x ∈ l ∧ (jobOf l x).name = x
  | [], x, h => by simp [hasJob] at h
  | j :: l, x, h => by
    unfold jobOf
    by_cases e : j.name = x
    · rw [if_pos e]; exact ⟨List.mem_cons_self, e⟩
    · rw [if_neg e]
      have : hasJob l x = true := by
        obtain ⟨k, hk, ek⟩ := (hasJob_iff _ _).1 h
        rcases List.mem_cons.1 hk with rfl | hk
        · exact absurd ek e
        · exact (hasJob_iff _ _).2 ⟨k, hk, ek⟩
      exact ⟨List.mem_cons_of_mem _ (jobOf_mem this).1, (jobOf_mem this).2⟩
def putQ (j : JobD) : ReqD := ⟨1, j, zNode, zLease, ⟨#[]⟩, 0⟩
def delQ (x : ByteArray) : ReqD := ⟨3, zJob, zNode, zLease, x, 0⟩
def grantQ (l : LeaseD) : ReqD := ⟨5, zJob, zNode, l, ⟨#[]⟩, 0⟩
def freeQ (x : ByteArray) : ReqD := ⟨6, zJob, zNode, zLease, x, 0⟩
def tickQ (n : Int) : ReqD := ⟨7, zJob, zNode, zLease, ⟨#[]⟩, n⟩
section
variable {U : ByteArray → Bool}
theorem qcheck_put (j : JobD) : qcheckE U (putQ j) = jobE U j := by
  rw [qcheck_part U (q := putQ j) ⟨by show (1 : Int) ≤ 1; decide, by show (1 : Int) ≤ 9; decide⟩ (by simp [ownQ, putQ])]; simp [partE, putQ]
theorem qcheck_del (x : ByteArray) : qcheckE U (delQ x) = if isName U x then 0 else 4 := by
  rw [qcheck_part U (q := delQ x) ⟨by show (1 : Int) ≤ 3; decide, by show (3 : Int) ≤ 9; decide⟩ (by simp [ownQ, delQ])]; simp only [partE, delQ]; rfl
theorem qcheck_grant (l : LeaseD) : qcheckE U (grantQ l) = leaseCE U l := by
  rw [qcheck_part U (q := grantQ l) ⟨by show (1 : Int) ≤ 5; decide, by show (5 : Int) ≤ 9; decide⟩ (by simp [ownQ, grantQ])]; simp [partE, grantQ]
theorem qcheck_free (x : ByteArray) : qcheckE U (freeQ x) = if isName U x then 0 else 4 := by
  rw [qcheck_part U (q := freeQ x) ⟨by show (1 : Int) ≤ 6; decide, by show (6 : Int) ≤ 9; decide⟩ (by simp [ownQ, freeQ])]; simp only [partE, freeQ]; rfl
theorem qcheck_tick {n : Int} (h : 0 ≤ n ∧ n ≤ 1099511627776) : qcheckE U (tickQ n) = 0 := by
  rw [qcheck_part U (q := tickQ n) ⟨by show (1 : Int) ≤ 7; decide, by show (7 : Int) ≤ 9; decide⟩ (by simp [ownQ, tickQ])]
  have : inR n 0 1099511627776 = true := (inR_iff _ _ _).2 h
  simp [partE, tickQ, this]

/-! ### Tick -/
theorem run_tick {s : StD} {now n : Int} (h : 0 ≤ n ∧ n ≤ 1099511627776) : runR U s now (tickQ n) = if 1099511627776 < now + n then (⟨s, now⟩, 1) else (⟨tickS (now + n) s, now + n⟩, 0) := by
  rw [runR_op (qcheck_tick h), opR_7 rfl]; rfl
theorem leasesT_mem (t : Int) (l : List LeaseD) (x : LeaseD) : x ∈ leasesT t l ↔ x ∈ l ∧ t < x.til := by
  simp [leasesT]
theorem leasesT_twice {a b : Int} (h : a ≤ b) (l : List LeaseD) : leasesT b (leasesT a l) = leasesT b l := by
  unfold leasesT
  rw [List.filter_filter]
  refine List.filter_congr (fun x _ => ?_)
  by_cases h1 : x.til ≤ b
  · simp [h1]
  · have h2 : ¬ x.til ≤ a := by omega
    simp [h1, h2]
theorem sv_leases {s : StD} {now n : Int} (h : 0 ≤ n ∧ n ≤ 1099511627776) (hc : (doR U s now (tickQ n)).2.1 = 0) : ∀ l ∈ (doR U s now (tickQ n)).1.s.leases, (doR U s now (tickQ n)).1.now < l.til := by
  have e := run_tick (U := U) (s := s) (now := now) h
  by_cases c : (runR U s now (tickQ n)).2 = 0
  · have c2 : ¬ 1099511627776 < now + n := fun k => by rw [e, if_pos k] at c; simp at c
    rw [if_neg c2] at e
    by_cases k : SameRows s (runR U s now (tickQ n)).1.s
    · rw [doR_same c k, e]
      rw [e] at k
      intro l hl
      have hl : l ∈ s.leases := hl
      rw [k.2.2] at hl
      exact ((leasesT_mem _ _ _).1 hl).2
    · by_cases hr : s.rev = 1099511627776
      · rw [doR_full c k hr] at hc; simp at hc
      · rw [doR_new c k hr, e]
        intro l hl
        exact ((leasesT_mem _ _ _).1 hl).2
  · rw [doR_err c] at hc; exact absurd hc c
/-- A Tick that finds the time. -/
theorem sv_tick {s : StD} {now n : Int} (h : 0 ≤ n ∧ n ≤ 1099511627776) (h0 : now + n ≤ 1099511627776) :
    (doR U s now (tickQ n) = (⟨s, now⟩, 2, false) ∧ s.rev = 1099511627776) ∨ ((doR U s now (tickQ n)).2.1 = 0 ∧ (doR U s now (tickQ n)).1.now = now + n ∧ ((doR U s now (tickQ n)).1.s.rev = s.rev ∨ (doR U s now (tickQ n)).1.s.rev = s.rev + 1) ∧ (doR U s now (tickQ n)).1.s.jobs = s.jobs ∧ (doR U s now (tickQ n)).1.s.nodes = s.nodes ∧ (doR U s now (tickQ n)).1.s.leases = leasesT (now + n) s.leases) := by
  have e := run_tick (U := U) (s := s) (now := now) h
  rw [if_neg (by omega)] at e
  have c : (runR U s now (tickQ n)).2 = 0 := by rw [e]
  by_cases k : SameRows s (runR U s now (tickQ n)).1.s
  · refine .inr ?_
    rw [doR_same c k, e]
    rw [e] at k
    exact ⟨rfl, rfl, .inl rfl, rfl, rfl, k.2.2⟩
  · by_cases hr : s.rev = 1099511627776
    · exact .inl ⟨doR_full c k hr, hr⟩
    · refine .inr ?_
      rw [doR_new c k hr, e]
      exact ⟨rfl, rfl, .inr rfl, rfl, rfl, rfl⟩

/-! ### Put and Del -/
theorem sv_put {s : StD} (h : Valid U s) (now : Int) (j : JobD) (hc : (doR U s now (putQ j)).2.1 = 0) : (doR U s now (putQ j)).1.now = now ∧ (doR U s now (putQ j)).1.s.jobs = putL (·.name) j s.jobs ∧ (doR U s now (putQ j)).1.s.nodes = s.nodes ∧ (doR U s now (putQ j)).1.s.leases = s.leases ∧ jobE U j = 0 := by
  have ha : Asc (·.name) s.jobs := h.2.2.1.2
  by_cases c : (runR U s now (putQ j)).2 = 0
  · have c2 : qcheckE U (putQ j) = 0 := Classical.byContradiction fun k => by rw [runR_bad k] at c; exact k c
    have e : runR U s now (putQ j) = (⟨putJ j s, now⟩, checkE U (putJ j s)) := by rw [runR_op c2, opR_1 rfl]; rfl
    have c3 : jobE U j = 0 := by rw [← qcheck_put (U := U) j]; exact c2
    by_cases k : SameRows s (runR U s now (putQ j)).1.s
    · rw [doR_same c k, e]; rw [e] at k; exact ⟨rfl, k.1, rfl, rfl, c3⟩
    · by_cases hr : s.rev = 1099511627776
      · rw [doR_full c k hr] at hc; simp at hc
      · rw [doR_new c k hr, e]; exact ⟨rfl, rfl, rfl, rfl, c3⟩
  · rw [doR_err c] at hc; exact absurd hc c
theorem sv_put_rev {s : StD} (h : Valid U s) (now : Int) (j : JobD) (hc : (doR U s now (putQ j)).2.1 = 0) : (j ∈ s.jobs ∧ (doR U s now (putQ j)).1.s.rev = s.rev) ∨ (j ∉ s.jobs ∧ (doR U s now (putQ j)).1.s.rev = s.rev + 1) := by
  have ha : Asc (·.name) s.jobs := h.2.2.1.2
  by_cases c : (runR U s now (putQ j)).2 = 0
  · have c2 : qcheckE U (putQ j) = 0 := Classical.byContradiction fun k => by rw [runR_bad k] at c; exact k c
    have e : runR U s now (putQ j) = (⟨putJ j s, now⟩, checkE U (putJ j s)) := by rw [runR_op c2, opR_1 rfl]; rfl
    by_cases k : SameRows s (runR U s now (putQ j)).1.s
    · rw [doR_same c k]; rw [e] at k; exact .inl ⟨(putL_same ha j).1 k.1.symm, rfl⟩
    · by_cases hr : s.rev = 1099511627776
      · rw [doR_full c k hr] at hc; simp at hc
      · rw [doR_new c k hr, e]
        refine .inr ⟨fun hj => k ?_, rfl⟩
        rw [e]; exact ⟨(put_self ha hj).symm, rfl, rfl⟩
  · rw [doR_err c] at hc; exact absurd hc c
theorem sv_put_again {s : StD} (h : Valid U s) (now : Int) {j : JobD} (hj : j ∈ s.jobs) : doR U s now (putQ j) = (⟨s, now⟩, 0, false) := by
  have ha : Asc (·.name) s.jobs := h.2.2.1.2
  have c2 : qcheckE U (putQ j) = 0 := by rw [qcheck_put]; exact h.2.2.1.1 j hj
  have e0 : putJ j s = s := by unfold putJ; rw [put_self ha hj]
  have e : runR U s now (putQ j) = (⟨s, now⟩, 0) := by
    rw [runR_op c2, opR_1 rfl]; show (SvD.mk (putJ j s) now, checkE U (putJ j s)) = _; rw [e0, (check_zero U s).2 h]
  rw [doR_same (by rw [e]) (by rw [e]; exact ⟨rfl, rfl, rfl⟩), e]
theorem jobsBut_has (x : ByteArray) (l : List JobD) : hasJob (jobsBut x l) x = false := by
  cases e : hasJob (jobsBut x l) x with
  | false => rfl
  | true =>
    obtain ⟨j, hj, ej⟩ := (hasJob_iff _ _).1 e
    have := (List.mem_filter.1 hj).2
    simp [ej] at this
theorem leasesJ_has (x : ByteArray) (l : List LeaseD) : hasLease (leasesJ x l) x = false := by
  cases e : hasLease (leasesJ x l) x with
  | false => rfl
  | true =>
    obtain ⟨j, hj, ej⟩ := (hasLease_iff _ _).1 e
    have := (List.mem_filter.1 hj).2
    simp [ej] at this
theorem sv_del {s : StD} (now : Int) {x : ByteArray} (hx : isName U x = true) (hj : hasJob s.jobs x = true) : doR U s now (delQ x) = (⟨bump (delJ x s), now⟩, 0, true) ∨ doR U s now (delQ x) = (⟨s, now⟩, 2, false) := by
  have c2 : qcheckE U (delQ x) = 0 := by rw [qcheck_del, if_pos hx]
  have e : runR U s now (delQ x) = (⟨delJ x s, now⟩, 0) := by rw [runR_op c2, opR_3 rfl]; exact if_pos hj
  have c : (runR U s now (delQ x)).2 = 0 := by rw [e]
  have k : ¬ SameRows s (runR U s now (delQ x)).1.s := fun k => by
    rw [e] at k
    have k1 : s.jobs = jobsBut x s.jobs := k.1
    rw [k1, jobsBut_has] at hj
    cases hj
  by_cases hr : s.rev = 1099511627776
  · exact .inr (doR_full c k hr)
  · refine .inl ?_; rw [doR_new c k hr, e]
theorem sv_del_none {s : StD} (now : Int) {x : ByteArray} (hx : isName U x = true) (hj : hasJob s.jobs x = false) : doR U s now (delQ x) = (⟨s, now⟩, 6, false) := by
  have c2 : qcheckE U (delQ x) = 0 := by rw [qcheck_del, if_pos hx]
  have e : runR U s now (delQ x) = (⟨s, now⟩, 6) := by rw [runR_op c2, opR_3 rfl]; exact if_neg (by show ¬ hasJob s.jobs x = true; rw [hj]; decide)
  rw [doR_err (by rw [e]; exact fun z => by cases z), e]

/-! ### Grant and Free -/
theorem sv_grant {s : StD} (h : Valid U s) (now : Int) (l : LeaseD) (hc : (doR U s now (grantQ l)).2.1 = 0) :
    (doR U s now (grantQ l)).1.now = now ∧ (doR U s now (grantQ l)).1.s.jobs = putL (·.name) (triedJ (jobOf s.jobs l.job)) s.jobs ∧ (doR U s now (grantQ l)).1.s.nodes = s.nodes ∧ (doR U s now (grantQ l)).1.s.leases = putL (·.job) l s.leases ∧ hasJob s.jobs l.job = true ∧ hasNode s.nodes l.node = true ∧ hasLease s.leases l.job = false ∧ leaseCE U l = 0 := by
  have ha : Asc (·.job) s.leases := h.2.2.2.2.1.2
  by_cases c : (runR U s now (grantQ l)).2 = 0
  · have c2 : qcheckE U (grantQ l) = 0 := Classical.byContradiction fun k => by rw [runR_bad k] at c; exact k c
    have c3 : leaseCE U l = 0 := by rw [← qcheck_grant (U := U) l]; exact c2
    have e : runR U s now (grantQ l) = _ := (runR_op c2).trans (opR_5 rfl)
    have q1 : (grantQ l).lease = l := rfl
    rw [q1] at e
    by_cases b1 : (hasJob s.jobs l.job && hasNode s.nodes l.node) = true
    · rw [if_pos b1] at e
      by_cases b2 : hasLease s.leases l.job = true
      · rw [if_pos b2] at e; rw [e] at c; simp at c
      · rw [if_neg b2] at e
        by_cases b3 : l.til ≤ now
        · rw [if_pos b3] at e; rw [e] at c; simp at c
        · rw [if_neg b3] at e
          by_cases b4 : (jobOf s.jobs l.job).tries = 100
          · rw [if_pos b4] at e; rw [e] at c; simp at c
          · rw [if_neg b4] at e
            have b1' := (Bool.and_eq_true _ _ ▸ b1 : _ ∧ _)
            have b2' : hasLease s.leases l.job = false := by simpa using b2
            have k : ¬ SameRows s (runR U s now (grantQ l)).1.s := fun k => by
              rw [e] at k
              have k1 : s.leases = putL (·.job) l s.leases := k.2.2
              have : l ∈ s.leases := by rw [k1]; exact put_in ha l
              rw [(hasLease_iff _ _).2 ⟨l, this, rfl⟩] at b2'; cases b2'
            by_cases hr : s.rev = 1099511627776
            · rw [doR_full c k hr] at hc; simp at hc
            · rw [doR_new c k hr, e]; exact ⟨rfl, rfl, rfl, rfl, b1'.1, b1'.2, b2', c3⟩
    · rw [if_neg b1] at e; rw [e] at c; simp at c
  · rw [doR_err c] at hc; exact absurd hc c
theorem sv_grant_again {s : StD} (now : Int) {l : LeaseD} (hq : leaseCE U l = 0) (h1 : hasJob s.jobs l.job = true) (h2 : hasNode s.nodes l.node = true) (h3 : hasLease s.leases l.job = true) : doR U s now (grantQ l) = (⟨s, now⟩, 7, false) := by
  have c2 : qcheckE U (grantQ l) = 0 := by rw [qcheck_grant]; exact hq
  have e : runR U s now (grantQ l) = (⟨s, now⟩, 7) := by
    rw [runR_op c2, opR_5 rfl]
    have q1 : (grantQ l).lease = l := rfl
    rw [q1, if_pos (by rw [h1, h2]; rfl), if_pos h3]
  rw [doR_err (by rw [e]; exact fun z => by cases z), e]
theorem sv_free {s : StD} (now : Int) {x : ByteArray} (hx : isName U x = true) (hj : hasLease s.leases x = true) : doR U s now (freeQ x) = (⟨bump (freeS x s), now⟩, 0, true) ∨ doR U s now (freeQ x) = (⟨s, now⟩, 2, false) := by
  have c2 : qcheckE U (freeQ x) = 0 := by rw [qcheck_free, if_pos hx]
  have e : runR U s now (freeQ x) = (⟨freeS x s, now⟩, 0) := by rw [runR_op c2, opR_6 rfl]; exact if_pos hj
  have c : (runR U s now (freeQ x)).2 = 0 := by rw [e]
  have k : ¬ SameRows s (runR U s now (freeQ x)).1.s := fun k => by
    rw [e] at k
    have k1 : s.leases = leasesJ x s.leases := k.2.2
    rw [k1, leasesJ_has] at hj
    cases hj
  by_cases hr : s.rev = 1099511627776
  · exact .inr (doR_full c k hr)
  · refine .inl ?_; rw [doR_new c k hr, e]
theorem sv_free_none {s : StD} (now : Int) {x : ByteArray} (hx : isName U x = true) (hj : hasLease s.leases x = false) : doR U s now (freeQ x) = (⟨s, now⟩, 6, false) := by
  have c2 : qcheckE U (freeQ x) = 0 := by rw [qcheck_free, if_pos hx]
  have e : runR U s now (freeQ x) = (⟨s, now⟩, 6) := by rw [runR_op c2, opR_6 rfl]; exact if_neg (by show ¬ hasLease s.leases x = true; rw [hj]; decide)
  rw [doR_err (by rw [e]; exact fun z => by cases z), e]
/-- A granted job is triedJ once more, where it stands. -/
theorem tries_at {s : StD} (h : Valid U s) {x : ByteArray} (hj : hasJob s.jobs x = true) {k : Nat} (hk : k < s.jobs.length) (e : s.jobs[k].name = x) : putL (·.name) (triedJ (jobOf s.jobs x)) s.jobs = s.jobs.set k (triedJ s.jobs[k]) := by
  have ha : Asc (·.name) s.jobs := h.2.2.1.2
  have m := jobOf_mem hj
  have e1 : jobOf s.jobs x = s.jobs[k] := asc_one ha m.1 (List.getElem_mem hk) (by rw [m.2, e])
  rw [e1]
  exact put_at ha (triedJ s.jobs[k]) k hk rfl

/-! ### two Puts -/
theorem sv_order {s : StD} (h : Valid U s) {j k : JobD} (hn : j.name ≠ k.name) (ha : (doR U s 0 (putQ j)).2.1 = 0) (hb : (doR U (doR U s 0 (putQ j)).1.s (doR U s 0 (putQ j)).1.now (putQ k)).2.1 = 0)
    (hc : (doR U s 0 (putQ k)).2.1 = 0) (hd : (doR U (doR U s 0 (putQ k)).1.s (doR U s 0 (putQ k)).1.now (putQ j)).2.1 = 0) :
    (doR U (doR U s 0 (putQ j)).1.s (doR U s 0 (putQ j)).1.now (putQ k)).1.s = (doR U (doR U s 0 (putQ k)).1.s (doR U s 0 (putQ k)).1.now (putQ j)).1.s := by
  have asc : Asc (·.name) s.jobs := h.2.2.1.2
  obtain ⟨n1, a1, a2, a3, _⟩ := sv_put h 0 j ha
  obtain ⟨m1, c1, c2, c3, _⟩ := sv_put h 0 k hc
  have ra := sv_put_rev h 0 j ha
  have rc := sv_put_rev h 0 k hc
  have va := doR_valid h 0 (putQ j)
  have vc := doR_valid h 0 (putQ k)
  obtain ⟨n2, b1, b2, b3, _⟩ := sv_put va _ k hb
  obtain ⟨m2, d1, d2, d3, _⟩ := sv_put vc _ j hd
  have rb := sv_put_rev va _ k hb
  have rd := sv_put_rev vc _ j hd
  rw [a1] at rb b1
  rw [c1] at rd d1
  rw [a2] at b2
  rw [a3] at b3
  rw [c2] at d2
  rw [c3] at d3
  have e1 : k ∈ putL (·.name) j s.jobs ↔ k ∈ s.jobs := by
    rw [put_mem asc]
    exact ⟨fun z => z.elim (fun z => absurd (congrArg JobD.name z).symm hn) (·.1), fun z => .inr ⟨z, fun z => hn z.symm⟩⟩
  have e2 : j ∈ putL (·.name) k s.jobs ↔ j ∈ s.jobs := by
    rw [put_mem asc]
    exact ⟨fun z => z.elim (fun z => absurd (congrArg JobD.name z) hn) (·.1), fun z => .inr ⟨z, hn⟩⟩
  rw [e1] at rb
  rw [e2] at rd
  have er : (doR U (doR U s 0 (putQ j)).1.s (doR U s 0 (putQ j)).1.now (putQ k)).1.s.rev = (doR U (doR U s 0 (putQ k)).1.s (doR U s 0 (putQ k)).1.now (putQ j)).1.s.rev := by
    rcases ra with ⟨p1, r1⟩ | ⟨p1, r1⟩ <;> rcases rc with ⟨p2, r2⟩ | ⟨p2, r2⟩ <;> rcases rb with ⟨p3, r3⟩ | ⟨p3, r3⟩ <;> rcases rd with ⟨p4, r4⟩ | ⟨p4, r4⟩ <;> first | (rw [r3, r4, r1, r2]; done) | (rw [r3, r4, r1, r2]; omega) | contradiction
  generalize doR U (doR U s 0 (putQ j)).1.s (doR U s 0 (putQ j)).1.now (putQ k) = X at *
  generalize doR U (doR U s 0 (putQ k)).1.s (doR U s 0 (putQ k)).1.now (putQ j) = Y at *
  obtain ⟨⟨⟨xr, xj, xn, xl⟩, xt⟩, xc⟩ := X
  obtain ⟨⟨⟨yr, yj, yn, yl⟩, yt⟩, yc⟩ := Y
  simp only at *
  subst er b2 b3 d2 d3
  rw [b1, d1, put_comm asc (x := k) (y := j) (fun z => hn z.symm)]
end
end Go.Proofs.YtiekgafopalfmaaGreatDoor
