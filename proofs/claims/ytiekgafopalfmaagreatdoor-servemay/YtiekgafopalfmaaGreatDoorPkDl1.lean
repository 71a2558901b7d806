import Derived.Test.YtiekgafopalfmaaGreatDoorPkSt1
import Derived.Test.YtiekgafopalfmaaGreatDoorPkWi1
import Derived.Sort.KeysCollected
/- Plain facts on rows that are put, taken away, compared and applied (no program). -/
namespace Go.Proofs.YtiekgafopalfmaaGreatDoor

section
variable {α : Type} {key : α → ByteArray}
/-- Rows with ascending keys are told by their members. -/
theorem asc_ext : ∀ {l m : List α}, Asc key l → Asc key m → (∀ x, x ∈ l ↔ x ∈ m) → l = m
  | [], [], _, _, _ => rfl
  | [], y :: m, _, _, h => by have := (h y).2 (List.mem_cons_self ..); cases this
  | x :: l, [], _, _, h => by have := (h x).1 (List.mem_cons_self ..); cases this
  | x :: l, y :: m, hl, hm, h => by
    have hl' := List.pairwise_cons.1 hl
    have hm' := List.pairwise_cons.1 hm
    have hxy : x = y := by
      rcases List.mem_cons.1 ((h x).1 (List.mem_cons_self ..)) with e | e
      · exact e
      · rcases List.mem_cons.1 ((h y).2 (List.mem_cons_self ..)) with e' | e'
        · exact e'.symm
        · exact absurd (lt_trans (hl'.1 y e') (hm'.1 x e)) (lt_irrefl _)
    subst hxy
    refine congrArg (x :: ·) (asc_ext hl'.2 hm'.2 (fun z => ⟨fun hz => ?_, fun hz => ?_⟩))
    · rcases List.mem_cons.1 ((h z).1 (List.mem_cons_of_mem _ hz)) with rfl | e
      · exact absurd (hl'.1 z hz) (lt_irrefl _)
      · exact e
    · rcases List.mem_cons.1 ((h z).2 (List.mem_cons_of_mem _ hz)) with rfl | e
      · exact absurd (hm'.1 z hz) (lt_irrefl _)
      · exact e
open Classical in
/-- A row put in its place. -/
noncomputable def putL (key : α → ByteArray) (x : α) : List α → List α
  | [] => [x]
  | y :: l => if lt (key y) (key x) then y :: putL key x l else if key y = key x then x :: l else x :: y :: l
theorem put_mem : ∀ {l : List α}, Asc key l → ∀ (x z : α), z ∈ putL key x l ↔ z = x ∨ (z ∈ l ∧ key z ≠ key x)
  | [], _, x, z => by simp [putL]
  | y :: l, h, x, z => by
    have h' := List.pairwise_cons.1 h
    unfold putL
    by_cases h1 : lt (key y) (key x)
    · rw [if_pos h1, List.mem_cons, put_mem h'.2 x z, List.mem_cons]
      constructor
      · rintro (rfl | rfl | ⟨a, b⟩)
        · exact .inr ⟨.inl rfl, lt_ne h1⟩
        · exact .inl rfl
        · exact .inr ⟨.inr a, b⟩
      · rintro (rfl | ⟨rfl | a, b⟩)
        · exact .inr (.inl rfl)
        · exact .inl rfl
        · exact .inr (.inr ⟨a, b⟩)
    · rw [if_neg h1]
      by_cases h2 : key y = key x
      · rw [if_pos h2, List.mem_cons, List.mem_cons]
        constructor
        · rintro (rfl | a)
          · exact .inl rfl
          · exact .inr ⟨.inr a, fun e => lt_ne (h'.1 z a) (by rw [h2, e])⟩
        · rintro (rfl | ⟨rfl | a, b⟩)
          · exact .inl rfl
          · exact absurd h2 b
          · exact .inr a
      · rw [if_neg h2, List.mem_cons, List.mem_cons]
        have h3 : lt (key x) (key y) := by
          rcases lt_or h2 with h | h
          · exact absurd h h1
          · exact h
        constructor
        · rintro (rfl | rfl | a)
          · exact .inl rfl
          · exact .inr ⟨.inl rfl, h2⟩
          · exact .inr ⟨.inr a, fun e => lt_ne (lt_trans h3 (h'.1 z a)) e.symm⟩
        · rintro (rfl | ⟨a, _⟩)
          · exact .inl rfl
          · exact .inr a
theorem put_asc : ∀ {l : List α}, Asc key l → ∀ x : α, Asc key (putL key x l)
  | [], _, x => by unfold putL; exact List.pairwise_singleton _ _
  | y :: l, h, x => by
    have h' := List.pairwise_cons.1 h
    unfold putL
    by_cases h1 : lt (key y) (key x)
    · rw [if_pos h1]
      refine List.pairwise_cons.2 ⟨fun z hz => ?_, put_asc h'.2 x⟩
      rcases (put_mem h'.2 x z).1 hz with rfl | ⟨a, _⟩
      · exact h1
      · exact h'.1 z a
    · rw [if_neg h1]
      by_cases h2 : key y = key x
      · rw [if_pos h2]
        exact List.pairwise_cons.2 ⟨fun z hz => by rw [← h2]; exact h'.1 z hz, h'.2⟩
      · rw [if_neg h2]
        have h3 : lt (key x) (key y) := by
          rcases lt_or h2 with h | h
          · exact absurd h h1
          · exact h
        refine List.pairwise_cons.2 ⟨fun z hz => ?_, h⟩
        rcases List.mem_cons.1 hz with rfl | a
        · exact h3
        · exact lt_trans h3 (h'.1 z a)
/-- Rows put one by one. -/
noncomputable def putsL (key : α → ByteArray) (l : List α) (xs : List α) : List α := xs.foldl (fun l x => putL key x l) l
theorem puts_asc : ∀ (xs : List α) {l : List α}, Asc key l → Asc key (putsL key l xs)
  | [], _, h => h
  | x :: xs, _, h => puts_asc xs (put_asc h x)
theorem puts_mem : ∀ {xs : List α} {l : List α}, Asc key l → Asc key xs → ∀ z, z ∈ putsL key l xs ↔ z ∈ xs ∨ (z ∈ l ∧ ∀ x ∈ xs, key z ≠ key x)
  | [], l, _, _, z => by simp [putsL]
  | x :: xs, l, h, hx, z => by
    have hx' := List.pairwise_cons.1 hx
    have e : putsL key l (x :: xs) = putsL key (putL key x l) xs := rfl
    rw [e, puts_mem (put_asc h x) hx'.2 z, put_mem h x z]
    constructor
    · rintro (a | ⟨rfl | ⟨a, b⟩, c⟩)
      · exact .inl (List.mem_cons_of_mem _ a)
      · exact .inl (List.mem_cons_self ..)
      · refine .inr ⟨a, fun y hy => ?_⟩
        rcases List.mem_cons.1 hy with rfl | hy
        · exact b
        · exact c y hy
    · rintro (a | ⟨a, b⟩)
      · rcases List.mem_cons.1 a with rfl | a
        · exact .inr ⟨.inl rfl, fun y hy => lt_ne (hx'.1 y hy)⟩
        · exact .inl a
      · exact .inr ⟨.inr ⟨a, b x (List.mem_cons_self ..)⟩, fun y hy => b y (List.mem_cons_of_mem _ hy)⟩
open Classical in
/-- Rows taken away by their keys; what is new; what is gone. -/
noncomputable def lessL (key : α → ByteArray) (l : List α) (gone : List ByteArray) : List α := l.filter fun x => decide (key x ∉ gone)
open Classical in
noncomputable def newL (a b : List α) : List α := b.filter fun x => decide (x ∉ a)
open Classical in
noncomputable def goneL (key : α → ByteArray) (a b : List α) : List ByteArray := (a.filter fun x => decide (∀ y ∈ b, key y ≠ key x)).map key
theorem less_asc {l : List α} (h : Asc key l) (gone : List ByteArray) : Asc key (lessL key l gone) := asc_sub h List.filter_sublist
theorem new_asc {a b : List α} (h : Asc key b) : Asc key (newL a b) := asc_sub h List.filter_sublist
theorem less_mem (l : List α) (gone : List ByteArray) (z : α) : z ∈ lessL key l gone ↔ z ∈ l ∧ key z ∉ gone := by simp [lessL]
theorem new_mem (a b : List α) (z : α) : z ∈ newL a b ↔ z ∈ b ∧ z ∉ a := by simp [newL]
theorem gone_mem (a b : List α) (k : ByteArray) : k ∈ goneL key a b ↔ ∃ x ∈ a, key x = k ∧ ∀ y ∈ b, key y ≠ k := by
  simp only [goneL, List.mem_map, List.mem_filter, decide_eq_true_eq]
  constructor
  · rintro ⟨x, ⟨h1, h2⟩, rfl⟩; exact ⟨x, h1, rfl, h2⟩
  · rintro ⟨x, h1, rfl, h2⟩; exact ⟨x, ⟨h1, h2⟩, rfl⟩
/-- A delta's part applied. -/
noncomputable def applyL (key : α → ByteArray) (l : List α) (gone : List ByteArray) (xs : List α) : List α := putsL key (lessL key l gone) xs
theorem apply_asc {l : List α} (h : Asc key l) (gone : List ByteArray) (xs : List α) : Asc key (applyL key l gone xs) := puts_asc xs (less_asc h gone)
theorem apply_mem {l xs : List α} (h : Asc key l) (hx : Asc key xs) (gone : List ByteArray) (z : α) : z ∈ applyL key l gone xs ↔ z ∈ xs ∨ (z ∈ l ∧ key z ∉ gone ∧ ∀ x ∈ xs, key z ≠ key x) := by
  unfold applyL
  rw [puts_mem (less_asc h gone) hx, less_mem]
  constructor
  · rintro (a | ⟨⟨a, b⟩, c⟩)
    · exact .inl a
    · exact .inr ⟨a, b, c⟩
  · rintro (a | ⟨a, b, c⟩)
    · exact .inl a
    · exact .inr ⟨⟨a, b⟩, c⟩
/-- What was told between two lists brings the one to the other. -/
theorem apply_diff {a b : List α} (ha : Asc key a) (hb : Asc key b) : applyL key a (goneL key a b) (newL a b) = b := by
  refine asc_ext (apply_asc ha _ _) hb (fun z => ?_)
  rw [apply_mem ha (new_asc hb), new_mem, gone_mem]
  constructor
  · rintro (⟨h, _⟩ | ⟨h1, h2, h3⟩)
    · exact h
    · -- z is an old row whose key stands in b
      have h4 : ∃ y ∈ b, key y = key z := Classical.byContradiction fun hn => h2 ⟨z, h1, rfl, fun y hy e => hn ⟨y, hy, e⟩⟩
      obtain ⟨y, hy, e⟩ := h4
      by_cases hya : y ∈ a
      · have := asc_one ha hya h1 e
        rwa [this] at hy
      · exact absurd e.symm (h3 y ((new_mem a b y).2 ⟨hy, hya⟩))
  · intro hz
    by_cases hza : z ∈ a
    · refine .inr ⟨hza, ?_, fun x hx e => ?_⟩
      · rintro ⟨x, _, e, hne⟩
        exact hne z hz rfl
      · obtain ⟨hx1, hx2⟩ := (new_mem a b x).1 hx
        have := asc_one hb hz hx1 e
        rw [this] at hza
        exact hx2 hza
    · exact .inl ⟨hz, hza⟩
/-- Nothing changed: nothing is told. -/
theorem new_self (a : List α) : newL a a = [] := by simp [newL]
theorem gone_self (a : List α) : goneL key a a = [] := by
  simp only [goneL, List.map_eq_nil_iff, List.filter_eq_nil_iff, decide_eq_true_eq]
  intro x hx h
  exact h x hx rfl
theorem gone_asc {a : List α} (h : Asc key a) (b : List α) : Asc id (goneL key a b) := by
  unfold goneL Asc
  rw [List.pairwise_map]
  exact asc_sub h List.filter_sublist
/-- What is told is none of what is gone. -/
theorem new_gone {a b : List α} {x : α} (h : x ∈ newL a b) : key x ∉ goneL key a b := by
  rw [gone_mem]
  rintro ⟨_, _, _, h3⟩
  exact h3 x ((new_mem a b x).1 h).1 rfl
/-- All is gone: nothing is left. -/
theorem apply_all (a : List α) : applyL key a (a.map key) [] = [] := by
  simp only [applyL, putsL, List.foldl_nil, lessL, List.filter_eq_nil_iff, decide_eq_true_eq]
  intro x hx h
  exact h (List.mem_map_of_mem hx)
end
end Go.Proofs.YtiekgafopalfmaaGreatDoor

/- Plain facts on deltas of states (no program): what a valid delta is, Diff, Apply. -/
namespace Go.Proofs.YtiekgafopalfmaaGreatDoor

structure DelD where
  frm : Int
  til : Int
  jobs : List JobD
  nodes : List NodeD
  leases : List LeaseD
  gj : List ByteArray
  gn : List ByteArray
  gl : List ByteArray
def zeroDel : DelD := ⟨0, 0, [], [], [], [], [], []⟩
section
variable (U : ByteArray → Bool)
def leaseCE (l : LeaseD) : Nat := if isName U l.job && isName U l.node then (if inR l.til 0 1099511627776 then 0 else 1) else 4
def goneE (has : ByteArray → Bool) : Option ByteArray → List ByteArray → Nat
  | _, [] => 0
  | p, x :: r => if isName U x then (if badO p x then 8 else if has x then 7 else goneE has (some x) r) else 4
def headDE (d : DelD) : Nat := if inR d.frm 0 1099511627776 && inR d.til (d.frm + 1) 1099511627776 then (if (d.jobs.length ≤ 40 ∧ d.leases.length ≤ 40 ∧ d.gj.length ≤ 40 ∧ d.gl.length ≤ 40) ∧ d.nodes.length ≤ 20 ∧ d.gn.length ≤ 20 then 0 else 2) else 1
def dcheckE (d : DelD) : Nat :=
  orE (headDE d) (orE (rowsE (jobE U) (·.name) none d.jobs) (orE (rowsE (nodeE U) (·.name) none d.nodes) (orE (rowsE (leaseCE U) (·.job) none d.leases) (orE (goneE U (hasJob d.jobs) none d.gj) (orE (goneE U (hasNode d.nodes) none d.gn) (goneE U (hasLease d.leases) none d.gl))))))
theorem goneE_zero (has : ByteArray → Bool) (p : Option ByteArray) (l : List ByteArray) : goneE U has p l = 0 ↔ (∀ x ∈ l, isName U x = true ∧ has x = false) ∧ (∀ q, p = some q → ∀ x ∈ l, lt q x) ∧ Asc id l := by
  induction l generalizing p with
  | nil => simp [goneE, Asc]
  | cons x r ih =>
    have hstep : goneE U has p (x :: r) = 0 ↔ isName U x = true ∧ badO p x = false ∧ has x = false ∧ goneE U has (some x) r = 0 := by
      rw [goneE]
      cases h1 : isName U x <;> cases h2 : badO p x <;> cases h3 : has x <;> simp
    rw [hstep, ih, badO_no]
    constructor
    · rintro ⟨h1, h2, h3, h4, h5, h6⟩
      refine ⟨?_, ?_, ?_⟩
      · intro y hy
        rcases List.mem_cons.1 hy with rfl | hy
        · exact ⟨h1, h3⟩
        · exact h4 y hy
      · intro q hq y hy
        rcases List.mem_cons.1 hy with rfl | hy
        · exact h2 q hq
        · exact lt_trans (h2 q hq) (h5 _ rfl y hy)
      · exact List.pairwise_cons.2 ⟨fun y hy => h5 _ rfl y hy, h6⟩
    · rintro ⟨h1, h2, h3⟩
      have h3 := List.pairwise_cons.1 h3
      refine ⟨(h1 x (by simp)).1, fun q hq => h2 q hq x (by simp), (h1 x (by simp)).2, fun y hy => h1 y (by simp [hy]), ?_, h3.2⟩
      intro q hq y hy
      simp only [Option.some.injEq] at hq
      subst hq
      exact h3.1 y hy
def ValidD (d : DelD) : Prop :=
  ((0 ≤ d.frm ∧ d.frm ≤ 1099511627776) ∧ d.frm < d.til ∧ d.til ≤ 1099511627776) ∧ ((d.jobs.length ≤ 40 ∧ d.leases.length ≤ 40 ∧ d.gj.length ≤ 40 ∧ d.gl.length ≤ 40) ∧ d.nodes.length ≤ 20 ∧ d.gn.length ≤ 20) ∧
  ((∀ j ∈ d.jobs, jobE U j = 0) ∧ Asc (·.name) d.jobs) ∧ ((∀ n ∈ d.nodes, nodeE U n = 0) ∧ Asc (·.name) d.nodes) ∧ ((∀ l ∈ d.leases, leaseCE U l = 0) ∧ Asc (·.job) d.leases) ∧
  ((∀ x ∈ d.gj, isName U x = true ∧ hasJob d.jobs x = false) ∧ Asc id d.gj) ∧ ((∀ x ∈ d.gn, isName U x = true ∧ hasNode d.nodes x = false) ∧ Asc id d.gn) ∧ ((∀ x ∈ d.gl, isName U x = true ∧ hasLease d.leases x = false) ∧ Asc id d.gl)
theorem dcheck_zero (d : DelD) : dcheckE U d = 0 ↔ ValidD U d := by
  unfold dcheckE ValidD
  rw [orE_zero, orE_zero, orE_zero, orE_zero, orE_zero, orE_zero, rowsE_zero, rowsE_zero, rowsE_zero, goneE_zero, goneE_zero, goneE_zero]
  have h1 : headDE d = 0 ↔ ((0 ≤ d.frm ∧ d.frm ≤ 1099511627776) ∧ d.frm < d.til ∧ d.til ≤ 1099511627776) ∧ ((d.jobs.length ≤ 40 ∧ d.leases.length ≤ 40 ∧ d.gj.length ≤ 40 ∧ d.gl.length ≤ 40) ∧ d.nodes.length ≤ 20 ∧ d.gn.length ≤ 20) := by
    unfold headDE
    by_cases h : (inR d.frm 0 1099511627776 && inR d.til (d.frm + 1) 1099511627776) = true
    · rw [if_pos h]
      rw [Bool.and_eq_true, inR_iff, inR_iff] at h
      split
      · rename_i k; exact ⟨fun _ => ⟨⟨h.1, by omega, h.2.2⟩, k⟩, fun _ => rfl⟩
      · rename_i k; exact ⟨fun e => absurd e (by omega), fun e => absurd e.2 k⟩
    · rw [if_neg h]
      rw [Bool.and_eq_true, inR_iff, inR_iff] at h
      exact ⟨fun k => absurd k (by omega), fun k => absurd ⟨k.1.1, by omega, k.1.2.2⟩ h⟩
  rw [h1]
  simp only [reduceCtorEq, false_implies, implies_true, true_and, and_assoc]
theorem leaseCE_zero (l : LeaseD) : leaseCE U l = 0 ↔ (isName U l.job = true ∧ isName U l.node = true) ∧ 0 ≤ l.til ∧ l.til ≤ 1099511627776 := by
  unfold leaseCE
  by_cases h : (isName U l.job && isName U l.node) = true
  · rw [if_pos h]
    rw [Bool.and_eq_true] at h
    by_cases h2 : inR l.til 0 1099511627776 = true
    · rw [if_pos h2]; rw [inR_iff] at h2; exact ⟨fun _ => ⟨h, h2⟩, fun _ => rfl⟩
    · rw [if_neg h2]; rw [inR_iff] at h2; exact ⟨fun e => absurd e (by omega), fun e => absurd e.2 h2⟩
  · rw [if_neg h]
    rw [Bool.and_eq_true] at h
    exact ⟨fun e => absurd e (by omega), fun e => absurd e.1 h⟩
end
/-- The delta between two states; a state with a delta applied. -/
noncomputable def diffS (a b : StD) : DelD := ⟨a.rev, b.rev, newL a.jobs b.jobs, newL a.nodes b.nodes, newL a.leases b.leases, goneL (·.name) a.jobs b.jobs, goneL (·.name) a.nodes b.nodes, goneL (·.job) a.leases b.leases⟩
noncomputable def applyS (s : StD) (d : DelD) : StD := ⟨d.til, applyL (·.name) s.jobs d.gj d.jobs, applyL (·.name) s.nodes d.gn d.nodes, applyL (·.job) s.leases d.gl d.leases⟩
section
variable {U : ByteArray → Bool}
theorem apply_diffS {a b : StD} (ha : Valid U a) (hb : Valid U b) : applyS a (diffS a b) = b := by
  obtain ⟨_, _, ⟨_, a1⟩, ⟨_, a2⟩, ⟨_, a3⟩, _⟩ := ha
  obtain ⟨_, _, ⟨_, b1⟩, ⟨_, b2⟩, ⟨_, b3⟩, _⟩ := hb
  unfold applyS diffS
  simp only
  rw [apply_diff a1 b1, apply_diff a2 b2, apply_diff a3 b3]
theorem new_length {α : Type} (a b : List α) : (newL a b).length ≤ b.length := List.length_filter_le _ _
theorem gone_length {α : Type} (key : α → ByteArray) (a b : List α) : (goneL key a b).length ≤ a.length := by
  unfold goneL; rw [List.length_map]; exact List.length_filter_le _ _
theorem valid_diff {a b : StD} (ha : Valid U a) (hb : Valid U b) (hr : a.rev < b.rev) : ValidD U (diffS a b) := by
  have hb' := hb
  have ha' := ha
  obtain ⟨ra, ⟨la1, la2, la3⟩, ⟨aj, aj'⟩, ⟨an, an'⟩, ⟨al, al'⟩, _⟩ := ha
  obtain ⟨rb, ⟨lb1, lb2, lb3⟩, ⟨bj, bj'⟩, ⟨bn, bn'⟩, ⟨bl, bl'⟩, _⟩ := hb
  have n1 := new_length a.jobs b.jobs
  have n2 := new_length a.nodes b.nodes
  have n3 := new_length a.leases b.leases
  have g1 := gone_length (·.name) a.jobs b.jobs
  have g2 := gone_length (·.name) a.nodes b.nodes
  have g3 := gone_length (·.job) a.leases b.leases
  -- a lease's two names are names of a job and of a node
  have leaseN : ∀ {s : StD}, Valid U s → ∀ l ∈ s.leases, (isName U l.job = true ∧ isName U l.node = true) ∧ 0 ≤ l.til ∧ l.til ≤ 1099511627776 := by
    intro s hs l hl
    obtain ⟨_, _, ⟨sj, _⟩, ⟨sn, _⟩, ⟨sl, _⟩, _⟩ := hs
    have z := (leaseE_zero _ _ _).1 (sl l hl)
    obtain ⟨j, hj, e1⟩ := (hasJob_iff _ _).1 z.1
    obtain ⟨n, hn, e2⟩ := (hasNode_iff _ _).1 z.2.1
    have z1 := (jobE_zero U j).1 (sj j hj)
    have z2 := (nodeE_zero U n).1 (sn n hn)
    exact ⟨⟨by rw [← e1]; exact z1.1.1, by rw [← e2]; exact z2.1.1⟩, z.2.2⟩
  refine ⟨⟨ra, hr, rb.2⟩, ⟨⟨Nat.le_trans n1 lb1, Nat.le_trans n3 lb2, Nat.le_trans g1 la1, Nat.le_trans g3 la2⟩, Nat.le_trans n2 lb3, Nat.le_trans g2 la3⟩, ⟨fun j hj => bj j ((new_mem _ _ _).1 hj).1, new_asc bj'⟩, ⟨fun n hn => bn n ((new_mem _ _ _).1 hn).1, new_asc bn'⟩, ⟨fun l hl => (leaseCE_zero U l).2 (leaseN hb' l ((new_mem _ _ _).1 hl).1), new_asc bl'⟩, ⟨fun x hx => ?_, gone_asc aj' _⟩, ⟨fun x hx => ?_, gone_asc an' _⟩, ⟨fun x hx => ?_, gone_asc al' _⟩⟩
  · obtain ⟨j, hj, e, hne⟩ := (gone_mem _ _ _).1 hx
    refine ⟨by rw [← e]; exact ((jobE_zero U j).1 (aj j hj)).1.1, ?_⟩
    cases h : hasJob (newL a.jobs b.jobs) x with
    | false => exact h
    | true =>
      obtain ⟨y, hy, e2⟩ := (hasJob_iff _ _).1 h
      exact absurd e2 (hne y ((new_mem _ _ _).1 hy).1)
  · obtain ⟨j, hj, e, hne⟩ := (gone_mem _ _ _).1 hx
    refine ⟨by rw [← e]; exact ((nodeE_zero U j).1 (an j hj)).1.1, ?_⟩
    cases h : hasNode (newL a.nodes b.nodes) x with
    | false => exact h
    | true =>
      obtain ⟨y, hy, e2⟩ := (hasNode_iff _ _).1 h
      exact absurd e2 (hne y ((new_mem _ _ _).1 hy).1)
  · obtain ⟨j, hj, e, hne⟩ := (gone_mem _ _ _).1 hx
    refine ⟨by rw [← e]; exact (leaseN ha' j hj).1.1, ?_⟩
    cases h : hasLease (newL a.leases b.leases) x with
    | false => exact h
    | true =>
      obtain ⟨y, hy, e2⟩ := (hasLease_iff _ _).1 h
      exact absurd e2 (hne y ((new_mem _ _ _).1 hy).1)
/-- What is gone was there. -/
theorem gone_there {a b : StD} : (∀ x ∈ (diffS a b).gj, hasJob a.jobs x = true) ∧ (∀ x ∈ (diffS a b).gn, hasNode a.nodes x = true) ∧ ∀ x ∈ (diffS a b).gl, hasLease a.leases x = true := by
  refine ⟨fun x hx => ?_, fun x hx => ?_, fun x hx => ?_⟩
  · obtain ⟨j, hj, e, _⟩ := (gone_mem _ _ _).1 hx; exact (hasJob_iff _ _).2 ⟨j, hj, e⟩
  · obtain ⟨j, hj, e, _⟩ := (gone_mem _ _ _).1 hx; exact (hasNode_iff _ _).2 ⟨j, hj, e⟩
  · obtain ⟨j, hj, e, _⟩ := (gone_mem _ _ _).1 hx; exact (hasLease_iff _ _).2 ⟨j, hj, e⟩
end
end Go.Proofs.YtiekgafopalfmaaGreatDoor

/- A delta among the arguments: opened as plain data; rows of strings. -/
namespace Go.Proofs.YtiekgafopalfmaaGreatDoor
open Go.ChangeShapes Go.WideShapes Go.RowKit Go.Joins Go.Deep

/-- A slice of strings in memory. -/
def NmsAt (w : World) (ad : Option Addr) (xs : List ByteArray) : Prop := ∀ i (h : i < xs.length), ∃ a, ad = some a ∧ a.block < w.heap.size ∧ w.cell? (a.add i) = some (.string xs[i])
theorem nmsAt_next {w w' : World} {ad : Option Addr} {xs : List ByteArray} (h : NmsAt w ad xs) (hb : Below w.heap.size w w') : NmsAt w' ad xs := by
  intro i hi
  obtain ⟨a, ha, hl, h0⟩ := h i hi
  exact ⟨a, ha, Nat.lt_of_lt_of_le hl hb.size, by rw [hb.cell (by rw [add_block]; exact hl)]; exact h0⟩
theorem nmsAt_nil (w : World) (ad : Option Addr) : NmsAt w ad [] := fun i hi => absurd hi (by simp)
def cNms (xs : List ByteArray) : List Value := xs.map Value.string
theorem cNms_append (a b : List ByteArray) : cNms (a ++ b) = cNms a ++ cNms b := List.map_append
theorem cNms_length (a : List ByteArray) : (cNms a).length = a.length := List.length_map _
theorem ownNms {w : World} {B n : Nat} {ad : Option Addr} {cap : Nat} {xs : List ByteArray} (h : w.ownsRow B 9 1 (.slice ad n cap) n (cNms xs)) (hn : n = xs.length) : NmsAt w ad xs := by
  subst hn
  intro i hi
  rcases h.2 with ⟨_, h0⟩ | ⟨g, cap', cur, hv, _⟩
  · omega
  · simp only [Value.slice.injEq] at hv
    obtain ⟨rfl, _⟩ := hv
    exact ⟨⟨g, 0, none⟩, rfl, (h.lt g rfl).2, h.cells (g := g) rfl i _ (by simp [cNms, hi])⟩
def dNm {H : Type} (x : ByteArray) : DataW H := .lit (.string x.data.toList)
set_option maxRecDepth 100000 in
theorem openNms {H : Type} {enc : TypeId × Value → H} {w : World} {base : Nat} {spare : Nat → Bool} {held : Bool} {fuel : Nat} {v : Value} {y : DataW H × List MemPlace} (hf : DataW.trod enc Tryz.prog w base spare held fuel 47 [v] = some y) :
    ∃ (ad : Option Addr) (cap : Nat) (xs : List ByteArray), v = .slice ad xs.length cap ∧ NmsAt w ad xs ∧ ((y.1 = .nil ∧ xs = []) ∨ ∃ more, y.1 = .slice (xs.map dNm) more) ∧ ∀ x ∈ xs, x.size ≤ maxLen := by
  rcases open_slice Tryz.underlying47 hf with ⟨hcs, hx⟩ | ⟨a, len, cap, m, n, D, Pl, hcs, _, hl, _, hm, hx, hi⟩
  · simp only [List.cons.injEq, and_true] at hcs
    subst hcs hx
    exact ⟨none, 0, [], rfl, fun i hi => by simp at hi, .inl ⟨rfl, rfl⟩, fun x hx => by cases hx⟩
  · simp only [List.cons.injEq, and_true] at hcs
    subst hcs hx
    have hlm : len ≤ m := by rw [hm]; split <;> omega
    have hC : Tryz.prog.cellsOf 9 = 1 := by kernel_rfl
    rw [hC] at hi
    have each : ∀ i, ∃ x : ByteArray, i < len → D i = dNm x ∧ x.size ≤ maxLen ∧ w.cell? (a.add i) = some (.string x) := by
      intro i
      by_cases hil : i < len
      · obtain ⟨cs', hc, ht⟩ := hi i (by omega)
        obtain ⟨_, hcl, hat⟩ := World.cells?_some hc
        obtain ⟨p, e, hy, u⟩ := DataW.trod_string Tryz.underlying9 ht
        simp only [Prod.mk.injEq] at hy
        have g0 := hat 0 (by omega)
        subst e
        rw [add_add] at g0
        exact ⟨p, fun _ => ⟨hy.1, u, by simpa using g0⟩⟩
      · exact ⟨⟨#[]⟩, fun h => absurd h hil⟩
    obtain ⟨f, hf⟩ := Classical.axiomOfChoice each
    refine ⟨some a, cap, (List.range len).map f, by simp, ?_, .inr ⟨_, by simp only; congr 1; rw [List.map_map]; exact List.map_congr_left (fun i hi => (hf i (by simpa using hi)).1)⟩, ?_⟩
    · intro i hi
      have hi' : i < len := by simpa using hi
      obtain ⟨_, _, h0⟩ := hf i hi'
      exact ⟨a, rfl, by have := World.block_lt_of_cell? _ _ h0; rwa [add_block] at this, by simpa using h0⟩
    · intro x hx
      obtain ⟨i, hi, rfl⟩ := List.mem_map.1 hx
      exact (hf i (by simpa using hi)).2.1
/-- Where the rows of a delta lie. -/
structure DlM where
  aj : Option Addr
  cj : Nat
  an : Option Addr
  cn : Nat
  al : Option Addr
  cl : Nat
  gj : Option Addr
  hj : Nat
  gn : Option Addr
  hn : Nat
  gl : Option Addr
  hl : Nat
def dlC (M : DlM) (d : DelD) : Array Value := #[.int .i64 d.frm, .int .i64 d.til, .slice M.aj d.jobs.length M.cj, .slice M.an d.nodes.length M.cn, .slice M.al d.leases.length M.cl, .slice M.gj d.gj.length M.hj, .slice M.gn d.gn.length M.hn, .slice M.gl d.gl.length M.hl]
def DeltaAt (w : World) (M : DlM) (d : DelD) : Prop := (JobsAt w M.aj d.jobs ∧ NodesAt w M.an d.nodes ∧ LeasesAt w M.al d.leases) ∧ NmsAt w M.gj d.gj ∧ NmsAt w M.gn d.gn ∧ NmsAt w M.gl d.gl
theorem deltaAt_next {w w' : World} {M : DlM} {d : DelD} (h : DeltaAt w M d) (hb : Below w.heap.size w w') : DeltaAt w' M d :=
  ⟨⟨jobsAt_next h.1.1 hb, nodesAt_next h.1.2.1 hb, leasesAt_next h.1.2.2 hb⟩, nmsAt_next h.2.1 hb, nmsAt_next h.2.2.1 hb, nmsAt_next h.2.2.2 hb⟩
def wDelta (d : DelD) : Prop := ((Lit.int .i64 d.frm).wf = true ∧ (Lit.int .i64 d.til).wf = true) ∧ ((∀ x ∈ d.jobs, wJob x) ∧ (∀ x ∈ d.nodes, wNode x) ∧ ∀ x ∈ d.leases, wLease x) ∧ (∀ x ∈ d.gj, x.size ≤ maxLen) ∧ (∀ x ∈ d.gn, x.size ≤ maxLen) ∧ ∀ x ∈ d.gl, x.size ≤ maxLen
set_option maxRecDepth 100000 in
theorem open_delta {H : Type} {enc : TypeId × Value → H} {w : World} {base : Nat} {spare : Nat → Bool} {held : Bool} {r : Reach} {b0 : Nat} {v : Value} {d : DataW H} {ps : List MemPlace} (hv : Value.okWide Tryz.prog w r b0 49 v) (h : DataW.Trod enc Tryz.prog w base spare held 49 v d ps) :
    ∃ (M : DlM) (s : DelD), v = .agg (dlC M s) ∧ DeltaAt w M s ∧ wDelta s := by
  obtain ⟨cs, rfl, hsz⟩ := okWide_struct Tryz.underlying49 hv
  have hC : Tryz.prog.cellsOf 49 = 8 := by kernel_rfl
  rw [hC] at hsz
  obtain ⟨fuel, hf⟩ := h
  obtain ⟨ys, n', _, hy, hlen, hyl, hg⟩ := DataW.trod_struct Tryz.underlying49 hf
  obtain ⟨l, rfl⟩ : ∃ l : List Value, cs = l.toArray := ⟨cs.toList, by simp⟩
  match l, hsz with
  | [c0, c1, c2, c3, c4, c5, c6, c7], _ =>
    match ys, hyl with
    | [y0, y1, y2, y3, y4, y5, y6, y7], _ =>
      have t0 := hg 0 _ rfl
      have t1 := hg 1 _ rfl
      have t2 := hg 2 _ rfl
      have t3 := hg 3 _ rfl
      have t4 := hg 4 _ rfl
      have t5 := hg 5 _ rfl
      have t6 := hg 6 _ rfl
      have t7 := hg 7 _ rfl
      simp [Value.cells] at t0 t1 t2 t3 t4 t5 t6 t7
      rw [show Tryz.prog.cellsOf 3 = 1 from by kernel_rfl] at t0 t1
      rw [show Tryz.prog.cellsOf 22 = 1 from by kernel_rfl] at t2
      rw [show Tryz.prog.cellsOf 23 = 1 from by kernel_rfl] at t3
      rw [show Tryz.prog.cellsOf 24 = 1 from by kernel_rfl] at t4
      rw [show Tryz.prog.cellsOf 47 = 1 from by kernel_rfl] at t5 t6 t7
      simp only [List.take_succ_cons, List.take_zero] at t0 t1 t2 t3 t4 t5 t6 t7
      obtain ⟨p0, e0, rfl, u0⟩ := DataW.trod_int Tryz.underlying3 t0
      obtain ⟨p1, e1, rfl, u1⟩ := DataW.trod_int Tryz.underlying3 t1
      simp only [List.cons.injEq, and_true] at e0 e1
      subst e0 e1
      obtain ⟨aj, cj, xj, rfl, mj, dj, wj⟩ := openJobs t2
      obtain ⟨an, cn, xn, rfl, mn, dn, wn⟩ := openNodes t3
      obtain ⟨al, cl, xl, rfl, ml, dl, wl⟩ := openLeases t4
      obtain ⟨bj, fj, zj, rfl, nj, _, vj⟩ := openNms t5
      obtain ⟨bn, fn, zn, rfl, nn, _, vn⟩ := openNms t6
      obtain ⟨bl, fl, zl, rfl, nl, _, vl⟩ := openNms t7
      exact ⟨⟨aj, cj, an, cn, al, cl, bj, fj, bn, fn, bl, fl⟩, ⟨p0, p1, xj, xn, xl, zj, zn, zl⟩, rfl, ⟨⟨mj, mn, ml⟩, nj, nn, nl⟩, ⟨u0, u1⟩, ⟨wj, wn, wl⟩, vj, vn, vl⟩
end Go.Proofs.YtiekgafopalfmaaGreatDoor

/- Tables of rows by their keys: a row taken away, a row put, all rows met once. -/
namespace Go.Proofs.YtiekgafopalfmaaGreatDoor
open Go.RowKit

/-- f with nothing at the key k. -/
def delF (f : ByteArray → Option Value) (k : ByteArray) : ByteArray → Option Value := fun s => if k = s then none else f s
theorem delF_at {D : DataW Value} {f : ByteArray → Option Value} (h : ∀ s : ByteArray, Maps.has D (keyL s) = (f s).isSome ∧ ∀ z, D.atKey (keyL s) (.held z) = .held ((f s).getD z)) (k : ByteArray) :
    ∀ s : ByteArray, Maps.has (D.del (keyL k)) (keyL s) = (delF f k s).isSome ∧ ∀ z, (D.del (keyL k)).atKey (keyL s) (.held z) = .held ((delF f k s).getD z) := by
  intro s
  unfold delF
  by_cases e : k = s
  · subst e
    rw [if_pos rfl]
    exact ⟨Maps.has_del_same, fun z => Maps.atKey_del_same _⟩
  · rw [if_neg e]
    have e' : keyL s ≠ keyL k := fun h => e (keyL_inj h).symm
    exact ⟨(Maps.has_del_other e').trans (h s).1, fun z => (Maps.atKey_del_other e' _).trans ((h s).2 z)⟩
theorem turned_grown {w w' : World} {b : Nat} (h : w.mapTurned w' b) : w.grownBy w' (some b) := h.grown
theorem wpList_del (w : World) {ops : Array Oper} {rest : List Oper} {o : Oper} {a : Act} {Q : Exit → Act → World → Prop} (hg : o.guard = none) (m x : Operand) (t : TypeId) (hop : o.op = Op.call { callee := Callee.builtin Builtin.delete, args := #[m, x], argTypes := #[t, 9] })
    (e : TypeId) (ht : Tryz.prog.underlying t = some (.map 9 e)) (b n : Nat) (f : ByteArray → Option Value) (hm : a.eval m = .map (some b)) (hown : MapAt w b n f) (s : ByteArray) (hx : a.eval x = .string s) (hs : s.size ≤ maxLen)
    (hK : ∀ w', MapAt w' b n (delF f s) → w.grownBy w' (some b) → wpList Tryz.prog ops Q rest (a.put o.dst (.tuple #[])) w') : wpList Tryz.prog ops Q (o :: rest) a w := by
  obtain ⟨D, h1, h2⟩ := hown
  exact wpList_delete_own w hg m x t 9 hop e strKeyed ht selfE b n D hm h1 (.string s) (keyL s) hx (strKey hs) (fun w' h3 h4 => hK w' ⟨_, h3, delF_at h2 s⟩ (turned_grown h4))

section
variable {α : Type} {key : α → ByteArray} {V : α → Value}
theorem lastD_asc {l : List α} (h : Asc key l) (s : ByteArray) (x : α) : lastD key l s = some x ↔ x ∈ l ∧ key x = s := by
  constructor
  · exact lastD_mem
  · rintro ⟨h1, h2⟩
    have h3 : (lastD key l s).isSome = true := by
      rw [lastD_isSome, List.any_eq_true]
      exact ⟨x, h1, by simpa using h2⟩
    obtain ⟨y, hy⟩ := Option.isSome_iff_exists.1 h3
    obtain ⟨m1, m2⟩ := lastD_mem hy
    rw [hy, asc_one h m1 h1 (by rw [m2, h2])]
theorem tabF_ext {l m : List α} (hl : Asc key l) (hm : Asc key m) (s : ByteArray) (h : ∀ x, key x = s → (x ∈ l ↔ x ∈ m)) : tabF key V l s = tabF key V m s := by
  unfold tabF
  have e : lastD key l s = lastD key m s := by
    ext x
    rw [lastD_asc hl, lastD_asc hm]
    constructor
    · rintro ⟨a, b⟩; exact ⟨(h x b).1 a, b⟩
    · rintro ⟨a, b⟩; exact ⟨(h x b).2 a, b⟩
  rw [e]
theorem tabF_none {l : List α} (hl : Asc key l) (s : ByteArray) (h : ∀ x ∈ l, key x ≠ s) : tabF key V l s = none := by
  unfold tabF
  cases e : lastD key l s with
  | none => rfl
  | some x => exact absurd ((lastD_asc hl s x).1 e).2 (h x ((lastD_asc hl s x).1 e).1)
theorem tabF_some {l : List α} (hl : Asc key l) {x : α} (h : x ∈ l) : tabF key V l (key x) = some (V x) := by
  unfold tabF
  rw [(lastD_asc hl (key x) x).2 ⟨h, rfl⟩]
  rfl
/-- The rows without those of a key. -/
def dropL (key : α → ByteArray) (k : ByteArray) (l : List α) : List α := l.filter fun x => !decide (key x = k)
theorem drop_mem (k : ByteArray) (l : List α) (x : α) : x ∈ dropL key k l ↔ x ∈ l ∧ key x ≠ k := by simp [dropL]
theorem drop_asc {l : List α} (h : Asc key l) (k : ByteArray) : Asc key (dropL key k l) := asc_sub h List.filter_sublist
theorem tabF_drop {l : List α} (hl : Asc key l) (k s : ByteArray) : delF (tabF key V l) k s = tabF key V (dropL key k l) s := by
  unfold delF
  by_cases e : k = s
  · rw [if_pos e, tabF_none (drop_asc hl k) s (fun x hx => by rw [← e]; exact ((drop_mem k l x).1 hx).2)]
  · rw [if_neg e]
    exact tabF_ext hl (drop_asc hl k) s (fun x hx => by rw [drop_mem]; exact ⟨fun h => ⟨h, by rw [hx]; exact fun c => e c.symm⟩, fun h => h.1⟩)
theorem tabF_put {l : List α} (hl : Asc key l) (x : α) (s : ByteArray) : putF (tabF key V l) (key x) (V x) s = tabF key V (putL key x l) s := by
  unfold putF
  by_cases e : key x = s
  · rw [if_pos e, ← e, tabF_some (put_asc hl x) ((put_mem hl x x).2 (.inl rfl))]
  · rw [if_neg e]
    refine tabF_ext hl (put_asc hl x) s (fun z hz => ?_)
    rw [put_mem hl]
    constructor
    · exact fun h => .inr ⟨h, by rw [hz]; exact fun c => e c.symm⟩
    · rintro (rfl | ⟨h, _⟩)
      · exact absurd hz e
      · exact h
/-- The rows l without those whose keys are among the first i of k. -/
def lessN (key : α → ByteArray) (l : List α) (k : List ByteArray) (i : Nat) : List α := l.filter fun x => !(k.take i).any fun s => decide (key x = s)
theorem lessN_mem (l : List α) (k : List ByteArray) (i : Nat) (x : α) : x ∈ lessN key l k i ↔ x ∈ l ∧ key x ∉ k.take i := by
  simp only [lessN, List.mem_filter, Bool.not_eq_true', List.any_eq_false, decide_eq_true_eq]
  constructor
  · rintro ⟨a, b⟩; exact ⟨a, fun c => b _ c rfl⟩
  · rintro ⟨a, b⟩; exact ⟨a, fun y hy e => b (by rw [e]; exact hy)⟩
theorem lessN_asc {l : List α} (h : Asc key l) (k : List ByteArray) (i : Nat) : Asc key (lessN key l k i) := asc_sub h List.filter_sublist
theorem lessN_zero (l : List α) (k : List ByteArray) : lessN key l k 0 = l := by
  unfold lessN
  rw [List.filter_eq_self]
  intro x _
  rfl
theorem lessN_step {l : List α} (k : List ByteArray) (i : Nat) (hi : i < k.length) : dropL key k[i] (lessN key l k i) = lessN key l k (i + 1) := by
  unfold dropL lessN
  rw [List.filter_filter]
  congr 1
  funext x
  rw [List.take_succ_eq_append_getElem hi, List.any_append]
  simp only [List.any_cons, List.any_nil, Bool.or_false, Bool.not_or]
  exact Bool.and_comm _ _
open Classical in
theorem lessN_end (l : List α) (k : List ByteArray) : lessN key l k k.length = lessL key l k := by
  unfold lessN lessL
  rw [List.take_length]
  congr 1
  funext x
  by_cases h : key x ∈ k
  · have h1 : (k.any fun s => decide (key x = s)) = true := List.any_eq_true.2 ⟨_, h, by simp⟩
    rw [h1]
    simp [h]
  · have h1 : (k.any fun s => decide (key x = s)) = false := List.any_eq_false.2 (fun y hy e => h (by simp only [decide_eq_true_eq] at e; rw [e]; exact hy))
    rw [h1]
    simp [h]
theorem lessN_size {l : List α} (k : List ByteArray) (i : Nat) : (lessN key l k i).length ≤ l.length := List.length_filter_le _ _
theorem puts_take (l xs : List α) (i : Nat) (hi : i < xs.length) : putsL key l (xs.take (i + 1)) = putL key xs[i] (putsL key l (xs.take i)) := by
  unfold putsL
  rw [List.take_succ_eq_append_getElem hi, List.foldl_append]
  rfl
end

/-! ### all rows of a table, met once -/
section
variable {α : Type} {key : α → ByteArray} {V : α → Value}
def bytesK (key : α → ByteArray) (x : α) : List UInt8 := (key x).data.toList
theorem bytesK_inj {x y : α} (h : bytesK key x = bytesK key y) : key x = key y := by
  unfold bytesK at h
  generalize key x = a at h
  generalize key y = b at h
  cases a; cases b; simp only [ByteArray.mk.injEq]; exact Array.toList_inj.1 h
/-- What a table's datum holds at a key is a row of it. -/
theorem dtab_at {l : List α} {D : DataW Value} (hD : ∀ s : ByteArray, Maps.has D (keyL s) = (tabF key V l s).isSome ∧ ∀ z, D.atKey (keyL s) (.held z) = .held ((tabF key V l s).getD z)) (hl : Asc key l) {k : List UInt8} {v : Value} (hat : ∀ zd, D.atKey (.string k) zd = .held v) : ∃ x ∈ l, v = V x ∧ bytesK key x = k := by
  have ek : keyL ⟨k.toArray⟩ = .string k := by simp [keyL]
  obtain ⟨h1, h2⟩ := hD ⟨k.toArray⟩
  rw [ek] at h1 h2
  have hh : Maps.has D (.string k) = true := Maps.has_true_of_atKey hat
  rw [hh] at h1
  obtain ⟨u, hu⟩ := Option.isSome_iff_exists.1 h1.symm
  have h3 := h2 v
  rw [hat, hu] at h3
  simp only [Option.getD_some, DataW.held.injEq] at h3
  subst h3
  unfold tabF at hu
  rw [Option.map_eq_some_iff] at hu
  obtain ⟨x, hx, rfl⟩ := hu
  obtain ⟨m1, m2⟩ := (lastD_asc hl _ x).1 hx
  exact ⟨x, m1, rfl, by unfold bytesK; rw [m2]⟩
/-- All came: just the rows, in some order. -/
theorem dtab_all {l xs : List α} {D : DataW Value} (hD : ∀ s : ByteArray, Maps.has D (keyL s) = (tabF key V l s).isSome ∧ ∀ z, D.atKey (keyL s) (.held z) = .held ((tabF key V l s).getD z)) (hl : Asc key l) (hsub : ∀ x ∈ xs, x ∈ l) (hC : Collected D (fun _ => false) (xs.map (bytesK key))) : xs.Perm l := by
  have nl : l.Nodup := hl.imp (fun {a b} h e => by rw [e] at h; exact lt_irrefl _ h)
  have nx : xs.Nodup := by
    have h1 := hC.1
    unfold List.Nodup at h1 ⊢
    rw [List.pairwise_map] at h1
    exact h1.imp (fun {a b} h e => h (by rw [e]))
  rw [List.perm_ext_iff_of_nodup nx nl]
  intro x
  refine ⟨hsub x, fun hx => ?_⟩
  have hs : Maps.has D (.string (bytesK key x)) = true := by
    have := (hD (key x)).1
    rw [tabF_some hl hx] at this
    exact this
  obtain ⟨y, hy, e⟩ := List.mem_map.1 ((hC.2 (bytesK key x)).2 ⟨hs, rfl⟩)
  rw [asc_one hl hx (hsub y hy) (bytesK_inj e.symm)]
  exact hy
/-- Sorted by their keys they are the rows themselves. -/
theorem sorted_is {l xs : List α} (hl : Asc key l) (hp : xs.Perm l) (hs : xs.Pairwise (fun x y => ¬ lt (key y) (key x))) : xs = l := by
  refine asc_ext ?_ hl (fun x => hp.mem_iff)
  have nk : xs.Pairwise (fun x y => key x ≠ key y) := by
    have h1 : l.Pairwise (fun x y => key x ≠ key y) := hl.imp (fun {a b} h => lt_ne h)
    exact (hp.pairwise_iff (fun {a b} h e => h e.symm)).2 h1
  exact (hs.and nk).imp (fun {a b} ⟨h1, h2⟩ => by
    rcases lt_or h2 with h | h
    · exact h
    · exact absurd h h1)
end
end Go.Proofs.YtiekgafopalfmaaGreatDoor
