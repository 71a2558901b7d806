/- Plain facts on scheduler states (no program): one step of a loop over the rows. -/
import Derived.Test.YtdbopgmckndmeaaDoorStPlain
import Derived.Laws.Strings
namespace Go.Proofs.YtdbopgmckndmeaaDoor

theorem sumZ_take {α : Type} (f : α → Int) (l : List α) (i : Nat) (h : i < l.length) : sumZ f (l.take (i + 1)) = sumZ f (l.take i) + f l[i] := by
  rw [List.take_succ_eq_append_getElem h, sumZ_append]; simp [sumZ]
theorem sumZ_part {α : Type} {f : α → Int} {l : List α} {M : Int} (h : ∀ x ∈ l, 0 ≤ f x ∧ f x ≤ M) (i : Nat) : 0 ≤ sumZ f (l.take i) ∧ sumZ f (l.take i) ≤ M * (l.take i).length :=
  ⟨sumZ_nonneg (fun x hx => (h x (List.mem_of_mem_take hx)).1), sumZ_bound (fun x hx => (h x (List.mem_of_mem_take hx)).2)⟩
/-- The key of the row before the i-th. -/
def prevK {α : Type} (key : α → ByteArray) (l : List α) (i : Nat) : Option ByteArray := if i = 0 then none else (l[i - 1]?).map key
theorem prevK_zero {α : Type} (key : α → ByteArray) (l : List α) : prevK key l 0 = none := rfl
theorem prevK_succ {α : Type} (key : α → ByteArray) (l : List α) (i : Nat) (h : i < l.length) : prevK key l (i + 1) = some (key l[i]) := by
  simp [prevK, h]
theorem rowsE_step {α : Type} (E : α → Nat) (key : α → ByteArray) (l : List α) (i : Nat) (h : i < l.length) :
    rowsE E key (prevK key l i) (l.drop i) = if E l[i] ≠ 0 then E l[i] else if badO (prevK key l i) (key l[i]) then 8 else rowsE E key (prevK key l (i + 1)) (l.drop (i + 1)) := by
  rw [List.drop_eq_getElem_cons h, rowsE, prevK_succ key l i h]
theorem rowsE_end {α : Type} (E : α → Nat) (key : α → ByteArray) (p : Option ByteArray) (l : List α) : rowsE E key p (l.drop l.length) = 0 := by
  rw [List.drop_length, rowsE]
theorem badO_first {α : Type} (key : α → ByteArray) (l : List α) (x : ByteArray) : badO (prevK key l 0) x = false := rfl
theorem badO_later {α : Type} (key : α → ByteArray) (l : List α) (i : Nat) (h : i < l.length) (x : ByteArray) : badO (prevK key l (i + 1)) x = !decide (lt (key l[i]) x) := by
  rw [prevK_succ key l i h]; rfl
/-- Go's '<' on strings. -/
theorem less_is (a b : ByteArray) : Op.bytesLess a.data.toList b.data.toList = decide (lt a b) := by
  have : ∀ x y : List UInt8, Op.bytesLess x y = decide (x < y) := by
    intro x
    induction x with
    | nil => intro y; cases y <;> simp [Op.bytesLess]
    | cons c x ih =>
      intro y
      cases y with
      | nil => simp [Op.bytesLess]
      | cons d y =>
        rw [Op.bytesLess, ih y]
        have e : (c == d) = decide (c = d) := by by_cases h : c = d <;> simp [h]
        rw [e]
        simp [List.cons_lt_cons_iff]
  exact this _ _
theorem less_toList (a b : ByteArray) : Op.bytesLess a.toList b.toList = decide (lt a b) := by
  rw [ByteArray.toList_eq, ByteArray.toList_eq]; exact less_is a b
theorem toList_inj' {a b : ByteArray} (h : a.toList = b.toList) : a = b := by
  rw [ByteArray.toList_eq, ByteArray.toList_eq] at h
  cases a; cases b; simp only [ByteArray.mk.injEq]; exact Array.toList_inj.1 h
theorem same_lists {a b : ByteArray} : (a.toList == b.toList) = decide (a = b) := by
  by_cases h : a = b
  · subst h; simp
  · have : ¬ a.toList = b.toList := fun e => h (toList_inj' e)
    simp [h, this]
/-- What '<=' and '>=' of strings ask, where y lies below x. -/
theorem above_lists {x y : ByteArray} (h : lt y x) : Op.bytesLess x.toList y.toList = false ∧ (x.toList == y.toList) = false := by
  rw [less_toList, same_lists]
  have h1 : ¬ lt x y := fun k => lt_irrefl _ (lt_trans h k)
  have h2 : ¬ x = y := (lt_ne h).symm
  simp [h1, h2]
theorem below_lists {x y : ByteArray} (h : ¬ lt y x) : (Op.bytesLess x.toList y.toList = true ∧ (x.toList == y.toList) = false) ∨ (Op.bytesLess x.toList y.toList = false ∧ (x.toList == y.toList) = true) := by
  rw [less_toList, same_lists]
  by_cases e : x = y
  · subst e; simp [lt_irrefl]
  · rcases lt_or e with k | k
    · simp [k, e]
    · exact absurd k h
/-- The first row of a name. -/
theorem needOf_first {jobs : List JobD} {x : ByteArray} (k : Nat) (hk : k < jobs.length) (hx : jobs[k].name = x) (h : ∀ j, (hj : j < k) → jobs[j].name ≠ x) : needOf jobs x = jobs[k].need := by
  induction jobs generalizing k with
  | nil => simp at hk
  | cons j r ih =>
    cases k with
    | zero =>
      simp only [List.getElem_cons_zero] at hx
      simp [needOf, hx]
    | succ k =>
      have h0 := h 0 (by omega)
      simp only [List.getElem_cons_zero] at h0
      simp only [List.getElem_cons_succ] at hx
      simp only [needOf, if_neg h0, List.getElem_cons_succ]
      exact ih k (by simpa using hk) hx (fun j hj => by have := h (j + 1) (by omega); simpa using this)
theorem needOf_none {jobs : List JobD} {x : ByteArray} (h : hasJob jobs x = false) : needOf jobs x = 0 := by
  induction jobs with
  | nil => rfl
  | cons j r ih =>
    simp only [hasJob, List.any_cons, Bool.or_eq_false_iff, decide_eq_false_iff_not] at h
    simp only [needOf, if_neg h.1]
    exact ih h.2
theorem any_no {α : Type} {p : α → Bool} {l : List α} (h : ∀ j, (hj : j < l.length) → p l[j] = false) : l.any p = false := by
  rw [List.any_eq_false]
  intro x hx
  obtain ⟨i, hi, rfl⟩ := List.getElem_of_mem hx
  rw [h i hi]; simp
theorem any_yes {α : Type} {p : α → Bool} {l : List α} (k : Nat) (hk : k < l.length) (h : p l[k] = true) : l.any p = true := List.any_eq_true.2 ⟨_, List.getElem_mem _, h⟩
/-- What the index of a row of a name is: -1, or the first. -/
def At {α : Type} (key : α → ByteArray) (l : List α) (x : ByteArray) (r : Int) : Prop := (r = -1 ∧ ∀ j, (hj : j < l.length) → key l[j] ≠ x) ∨ ∃ k, ∃ hk : k < l.length, r = (k : Int) ∧ key l[k] = x ∧ ∀ j, (hj : j < k) → key (l[j]'(by omega)) ≠ x
theorem at_any {α : Type} (key : α → ByteArray) (l : List α) (x : ByteArray) : ∃ r, At key l x r := by
  by_cases h : ∃ k, ∃ hk : k < l.length, key l[k] = x
  · obtain ⟨n, hn⟩ : ∃ n, ∃ k, k ≤ n ∧ ∃ hk : k < l.length, key l[k] = x := by
      obtain ⟨k, hk, hx⟩ := h; exact ⟨k, k, Nat.le_refl _, hk, hx⟩
    clear h
    induction n with
    | zero =>
      obtain ⟨k, hk0, hk, hx⟩ := hn
      obtain rfl : k = 0 := by omega
      exact ⟨0, .inr ⟨0, hk, rfl, hx, fun j hj => by omega⟩⟩
    | succ n ih =>
      by_cases h2 : ∃ k, k ≤ n ∧ ∃ hk : k < l.length, key l[k] = x
      · exact ih h2
      · obtain ⟨k, hk0, hk, hx⟩ := hn
        exact ⟨k, .inr ⟨k, hk, rfl, hx, fun j hj e => h2 ⟨j, by omega, by omega, e⟩⟩⟩
  · exact ⟨-1, .inl ⟨rfl, fun j hj e => h ⟨j, hj, e⟩⟩⟩
theorem at_job {l : List JobD} {x : ByteArray} {r : Int} (h : At (·.name) l x r) : (hasJob l x = decide (0 ≤ r)) ∧ (∀ k : Nat, r = (k : Int) → ∃ hk : k < l.length, needOf l x = l[k].need) := by
  rcases h with ⟨rfl, h⟩ | ⟨k, hk, rfl, hx, hj⟩
  · refine ⟨?_, fun k e => by omega⟩
    have : hasJob l x = false := any_no (fun j hj => by simpa using h j hj)
    rw [this]; simp
  · refine ⟨?_, fun k' e => ?_⟩
    · have : hasJob l x = true := any_yes k hk (by simpa using hx)
      rw [this]; simp
    · obtain rfl : k' = k := by omega
      exact ⟨hk, needOf_first k' hk hx hj⟩
theorem at_node {l : List NodeD} {x : ByteArray} {r : Int} (h : At (·.name) l x r) : hasNode l x = decide (0 ≤ r) := by
  rcases h with ⟨rfl, h⟩ | ⟨k, hk, rfl, hx, _⟩
  · have : hasNode l x = false := any_no (fun j hj => by simpa using h j hj)
    rw [this]; simp
  · have : hasNode l x = true := any_yes k hk (by simpa using hx)
    rw [this]; simp
theorem at_lease {l : List LeaseD} {x : ByteArray} {r : Int} (h : At (·.job) l x r) : hasLease l x = decide (0 ≤ r) := by
  rcases h with ⟨rfl, h⟩ | ⟨k, hk, rfl, hx, _⟩
  · have : hasLease l x = false := any_no (fun j hj => by simpa using h j hj)
    rw [this]; simp
  · have : hasLease l x = true := any_yes k hk (by simpa using hx)
    rw [this]; simp
/-- The errors are small numbers. -/
theorem jobE_le (U : ByteArray → Bool) (j : JobD) : jobE U j ≤ 10 := by unfold jobE; split <;> (try split) <;> omega
theorem nodeE_le (U : ByteArray → Bool) (n : NodeD) : nodeE U n ≤ 10 := by unfold nodeE; split <;> (try split) <;> omega
theorem leaseE_le (jobs : List JobD) (nodes : List NodeD) (l : LeaseD) : leaseE jobs nodes l ≤ 10 := by unfold leaseE; split <;> (try split) <;> omega
theorem roomE_no {jobs : List JobD} {leases : List LeaseD} {nodes : List NodeD} (i : Nat) (hi : i < nodes.length) (h : nodes[i].room < usedD jobs leases nodes[i].name) : roomE jobs leases nodes = 9 := by
  unfold roomE
  rw [if_neg]
  intro h1
  rw [List.all_eq_true] at h1
  have := h1 nodes[i] (List.getElem_mem _)
  simp only [decide_eq_true_eq] at this
  omega
theorem roomE_yes {jobs : List JobD} {leases : List LeaseD} {nodes : List NodeD} (h : ∀ j, (hj : j < nodes.length) → usedD jobs leases nodes[j].name ≤ nodes[j].room) : roomE jobs leases nodes = 0 := by
  unfold roomE
  rw [if_pos]
  rw [List.all_eq_true]
  intro x hx
  obtain ⟨i, hi, rfl⟩ := List.getElem_of_mem hx
  simpa using h i hi
end Go.Proofs.YtdbopgmckndmeaaDoor
