/- Plain facts on scheduler states (no program): what Check, Fits and Used answer, and what follows of a valid state. U stands for 'is valid UTF-8'. -/
import Derived.Test.YtdbopgmckndmeaaDoorRows
namespace Go.Proofs.YtdbopgmckndmeaaDoor

structure JobD where
  name : ByteArray
  prio : Int
  need : Int
  tries : Int
  tag : ByteArray
structure NodeD where
  name : ByteArray
  room : Int
  zone : ByteArray
structure LeaseD where
  job : ByteArray
  node : ByteArray
  til : Int
structure StD where
  rev : Int
  jobs : List JobD
  nodes : List NodeD
  leases : List LeaseD

/-! ### the order of names -/
def lt (a b : ByteArray) : Prop := a.data.toList < b.data.toList
instance (a b : ByteArray) : Decidable (lt a b) := inferInstanceAs (Decidable (a.data.toList < b.data.toList))
theorem lt_irrefl (a : ByteArray) : ¬ lt a a := List.lt_irrefl _
theorem lt_trans {a b c : ByteArray} (h : lt a b) (k : lt b c) : lt a c := List.lt_trans h k
theorem lt_ne {a b : ByteArray} (h : lt a b) : a ≠ b := fun e => lt_irrefl b (e ▸ h)
theorem lt_or {a b : ByteArray} (h : a ≠ b) : lt a b ∨ lt b a := by
  by_cases h1 : lt a b
  · exact .inl h1
  · by_cases h2 : lt b a
    · exact .inr h2
    · exact absurd (List.le_antisymm (List.not_lt.1 h2) (List.not_lt.1 h1)) (fun e => h (by
        cases a; cases b; simp only [ByteArray.mk.injEq]; exact Array.toList_inj.1 e))

/-! ### sums -/
def sumZ {α : Type} (f : α → Int) : List α → Int
  | [] => 0
  | x :: l => f x + sumZ f l
theorem sumZ_append {α : Type} (f : α → Int) (a b : List α) : sumZ f (a ++ b) = sumZ f a + sumZ f b := by
  induction a with
  | nil => simp [sumZ]
  | cons x a ih => simp only [List.cons_append, sumZ, ih]; omega
theorem sumZ_congr {α : Type} {f g : α → Int} {l : List α} (h : ∀ x ∈ l, f x = g x) : sumZ f l = sumZ g l := by
  induction l with
  | nil => rfl
  | cons x l ih => simp only [sumZ]; rw [h x (by simp), ih (fun y hy => h y (by simp [hy]))]
theorem sumZ_le {α : Type} {f g : α → Int} {l : List α} (h : ∀ x ∈ l, f x ≤ g x) : sumZ f l ≤ sumZ g l := by
  induction l with
  | nil => simp [sumZ]
  | cons x l ih =>
    have h1 := h x (by simp)
    have h2 := ih (fun y hy => h y (by simp [hy]))
    simp only [sumZ]; omega
theorem sumZ_nonneg {α : Type} {f : α → Int} {l : List α} (h : ∀ x ∈ l, 0 ≤ f x) : 0 ≤ sumZ f l := by
  induction l with
  | nil => simp [sumZ]
  | cons x l ih =>
    have h1 := h x (by simp)
    have h2 := ih (fun y hy => h y (by simp [hy]))
    simp only [sumZ]; omega
theorem sumZ_bound {α : Type} {f : α → Int} {l : List α} {M : Int} (h : ∀ x ∈ l, f x ≤ M) : sumZ f l ≤ M * l.length := by
  induction l with
  | nil => simp [sumZ]
  | cons x l ih =>
    have h1 := h x (by simp)
    have h2 := ih (fun y hy => h y (by simp [hy]))
    have e : M * ((l.length + 1 : Nat) : Int) = M * (l.length : Int) + M := by rw [Int.natCast_add, Int.mul_add]; simp
    simp only [sumZ, List.length_cons]
    omega
theorem sumZ_zero {α : Type} (l : List α) : sumZ (fun _ => 0) l = 0 := by
  induction l with
  | nil => rfl
  | cons x l ih => simp only [sumZ, ih]; rfl
theorem sumZ_add {α : Type} (f g : α → Int) (l : List α) : sumZ (fun x => f x + g x) l = sumZ f l + sumZ g l := by
  induction l with
  | nil => rfl
  | cons x l ih => simp only [sumZ, ih]; omega
theorem sumZ_swap {α β : Type} (f : α → β → Int) (l : List α) (m : List β) : sumZ (fun x => sumZ (f x) m) l = sumZ (fun y => sumZ (fun x => f x y) l) m := by
  induction l with
  | nil => simp only [sumZ]; rw [sumZ_zero]
  | cons x l ih => simp only [sumZ]; rw [ih, ← sumZ_add]

/-! ### Check -/
section
variable (U : ByteArray → Bool)
def isNote (s : ByteArray) : Bool := decide (s.size ≤ 16) && U s
def isName (s : ByteArray) : Bool := decide (s.size ≠ 0) && isNote U s
def inR (n lo hi : Int) : Bool := decide (lo ≤ n) && decide (n ≤ hi)
def jobE (j : JobD) : Nat := if isName U j.name && isNote U j.tag then (if inR j.prio (-1000) 1000 && inR j.need 0 1000000 && inR j.tries 0 100 then 0 else 1) else 4
def nodeE (n : NodeD) : Nat := if isName U n.name && isNote U n.zone then (if inR n.room 0 1000000 then 0 else 1) else 4
def needOf : List JobD → ByteArray → Int
  | [], _ => 0
  | j :: r, x => if j.name = x then j.need else needOf r x
def hasJob (l : List JobD) (x : ByteArray) : Bool := l.any fun j => decide (j.name = x)
def hasNode (l : List NodeD) (x : ByteArray) : Bool := l.any fun n => decide (n.name = x)
def hasLease (l : List LeaseD) (x : ByteArray) : Bool := l.any fun y => decide (y.job = x)
def leaseE (jobs : List JobD) (nodes : List NodeD) (l : LeaseD) : Nat := if hasJob jobs l.job && hasNode nodes l.node then (if inR l.til 0 1099511627776 then 0 else 1) else 6
def badO (p : Option ByteArray) (k : ByteArray) : Bool := match p with | none => false | some q => !decide (lt q k)
/-- The rows from here on; p: the key of the row before. -/
def rowsE {α : Type} (E : α → Nat) (key : α → ByteArray) : Option ByteArray → List α → Nat
  | _, [] => 0
  | p, x :: r => if E x ≠ 0 then E x else if badO p (key x) then 8 else rowsE E key (some (key x)) r
def useOf (jobs : List JobD) (node : ByteArray) (l : LeaseD) : Int := if l.node = node then needOf jobs l.job else 0
def usedD (jobs : List JobD) (leases : List LeaseD) (node : ByteArray) : Int := sumZ (useOf jobs node) leases
def roomE (jobs : List JobD) (leases : List LeaseD) (nodes : List NodeD) : Nat := if nodes.all (fun n => decide (usedD jobs leases n.name ≤ n.room)) then 0 else 9
def orE (a b : Nat) : Nat := if a ≠ 0 then a else b
def headSE (s : StD) : Nat := if inR s.rev 0 1099511627776 then (if s.jobs.length ≤ 40 ∧ s.leases.length ≤ 40 ∧ s.nodes.length ≤ 20 then 0 else 2) else 1
def checkE (s : StD) : Nat :=
  orE (headSE s) (orE (rowsE (jobE U) (·.name) none s.jobs) (orE (rowsE (nodeE U) (·.name) none s.nodes) (orE (rowsE (leaseE s.jobs s.nodes) (·.job) none s.leases) (roomE s.jobs s.leases s.nodes))))

/-! ### what a valid state is -/
def Asc {α : Type} (key : α → ByteArray) (l : List α) : Prop := l.Pairwise fun a b => lt (key a) (key b)
def Valid (s : StD) : Prop :=
  (0 ≤ s.rev ∧ s.rev ≤ 1099511627776) ∧ (s.jobs.length ≤ 40 ∧ s.leases.length ≤ 40 ∧ s.nodes.length ≤ 20) ∧ ((∀ j ∈ s.jobs, jobE U j = 0) ∧ Asc (·.name) s.jobs) ∧ ((∀ n ∈ s.nodes, nodeE U n = 0) ∧ Asc (·.name) s.nodes) ∧
  ((∀ l ∈ s.leases, leaseE s.jobs s.nodes l = 0) ∧ Asc (·.job) s.leases) ∧ ∀ n ∈ s.nodes, usedD s.jobs s.leases n.name ≤ n.room
theorem orE_zero (a b : Nat) : orE a b = 0 ↔ a = 0 ∧ b = 0 := by unfold orE; split <;> omega
theorem badO_no (p : Option ByteArray) (k : ByteArray) : badO p k = false ↔ ∀ q, p = some q → lt q k := by
  cases p with
  | none => simp [badO]
  | some q => simp [badO]
theorem rowsE_zero {α : Type} (E : α → Nat) (key : α → ByteArray) (p : Option ByteArray) (l : List α) : rowsE E key p l = 0 ↔ (∀ x ∈ l, E x = 0) ∧ (∀ q, p = some q → ∀ x ∈ l, lt q (key x)) ∧ Asc key l := by
  induction l generalizing p with
  | nil => simp [rowsE, Asc]
  | cons x r ih =>
    have hstep : rowsE E key p (x :: r) = 0 ↔ E x = 0 ∧ badO p (key x) = false ∧ rowsE E key (some (key x)) r = 0 := by
      rw [rowsE]
      by_cases h1 : E x ≠ 0
      · rw [if_pos h1]; exact ⟨fun h => absurd h h1, fun h => absurd h.1 h1⟩
      · rw [if_neg h1]
        have h1 : E x = 0 := by simpa using h1
        by_cases h2 : badO p (key x) = true
        · rw [if_pos h2]; simp [h2]
        · rw [if_neg h2]
          have h2 : badO p (key x) = false := by simpa using h2
          simp [h1, h2]
    rw [hstep, ih, badO_no]
    constructor
    · rintro ⟨h1, h2, h3, h4, h5⟩
      refine ⟨?_, ?_, ?_⟩
      · intro y hy
        rcases List.mem_cons.1 hy with rfl | hy
        · exact h1
        · exact h3 y hy
      · intro q hq y hy
        rcases List.mem_cons.1 hy with rfl | hy
        · exact h2 q hq
        · exact lt_trans (h2 q hq) (h4 _ rfl y hy)
      · exact List.pairwise_cons.2 ⟨fun y hy => h4 _ rfl y hy, h5⟩
    · rintro ⟨h1, h2, h3⟩
      have h3 := List.pairwise_cons.1 h3
      refine ⟨h1 x (by simp), fun q hq => h2 q hq x (by simp), fun y hy => h1 y (by simp [hy]), ?_, h3.2⟩
      intro q hq y hy
      simp only [Option.some.injEq] at hq
      subst hq
      exact h3.1 y hy
theorem inR_iff (n lo hi : Int) : inR n lo hi = true ↔ lo ≤ n ∧ n ≤ hi := by simp [inR]
theorem check_zero (s : StD) : checkE U s = 0 ↔ Valid U s := by
  unfold checkE Valid
  rw [orE_zero, orE_zero, orE_zero, orE_zero, rowsE_zero, rowsE_zero, rowsE_zero]
  have h1 : headSE s = 0 ↔ (0 ≤ s.rev ∧ s.rev ≤ 1099511627776) ∧ (s.jobs.length ≤ 40 ∧ s.leases.length ≤ 40 ∧ s.nodes.length ≤ 20) := by
    unfold headSE
    by_cases h : inR s.rev 0 1099511627776 = true
    · rw [if_pos h]
      have := (inR_iff _ _ _).1 h
      split <;> simp_all
    · rw [if_neg h]
      have : ¬ (0 ≤ s.rev ∧ s.rev ≤ 1099511627776) := fun k => h ((inR_iff _ _ _).2 k)
      exact ⟨fun k => absurd k (by omega), fun k => absurd k.1 this⟩
  have h2 : roomE s.jobs s.leases s.nodes = 0 ↔ ∀ n ∈ s.nodes, usedD s.jobs s.leases n.name ≤ n.room := by
    unfold roomE
    split
    · rename_i h; simp only [List.all_eq_true, decide_eq_true_eq] at h; exact ⟨fun _ => h, fun _ => rfl⟩
    · rename_i h
      simp only [List.all_eq_true, decide_eq_true_eq] at h
      exact ⟨fun k => absurd k (by omega), fun k => absurd k h⟩
  rw [h1, h2]
  simp only [reduceCtorEq, false_implies, implies_true, true_and, and_assoc]

/-! ### rows with ascending keys -/
theorem asc_ne {α : Type} {key : α → ByteArray} {l : List α} (h : Asc key l) (i : Nat) (hi : i < l.length) : ∀ x ∈ l.take i ++ l.drop (i + 1), key x ≠ key l[i] := by
  have e : l = l.take i ++ l[i] :: l.drop (i + 1) := by rw [← List.drop_eq_getElem_cons hi, List.take_append_drop]
  unfold Asc at h
  rw [e, List.pairwise_append, List.pairwise_cons] at h
  obtain ⟨_, ⟨h2, _⟩, h4⟩ := h
  intro x hx
  rcases List.mem_append.1 hx with h5 | h5
  · exact lt_ne (h4 x h5 _ List.mem_cons_self)
  · exact (lt_ne (h2 x h5)).symm
theorem asc_one {α : Type} {key : α → ByteArray} {l : List α} (h : Asc key l) {x y : α} (hx : x ∈ l) (hy : y ∈ l) (e : key x = key y) : x = y := by
  induction l with
  | nil => cases hx
  | cons z l ih =>
    have h1 := List.pairwise_cons.1 h
    rcases List.mem_cons.1 hx with rfl | hx'
    · rcases List.mem_cons.1 hy with rfl | hy'
      · rfl
      · exact absurd e (lt_ne (h1.1 y hy'))
    · rcases List.mem_cons.1 hy with rfl | hy'
      · exact absurd e.symm (lt_ne (h1.1 x hx'))
      · exact ih h1.2 hx' hy'
theorem without_sub {α : Type} (l : List α) (i : Nat) : (l.take i ++ l.drop (i + 1)).Sublist l := by
  rw [← List.eraseIdx_eq_take_drop_succ]; exact List.eraseIdx_sublist l i
theorem asc_sub {α : Type} {key : α → ByteArray} {l m : List α} (h : Asc key l) (k : m.Sublist l) : Asc key m := List.Pairwise.sublist k h
/-- The sum over rows with ascending keys of what stands at one key. -/
theorem sumZ_pick {α : Type} {key : α → ByteArray} {l : List α} (h : Asc key l) (c : α → Int) {y : α} (hy : y ∈ l) : sumZ (fun x => if key y = key x then c x else 0) l = c y := by
  induction l with
  | nil => cases hy
  | cons z l ih =>
    have h1 := List.pairwise_cons.1 h
    simp only [sumZ]
    rcases List.mem_cons.1 hy with rfl | hy'
    · rw [if_pos rfl]
      have : sumZ (fun x => if key y = key x then c x else 0) l = sumZ (fun _ => 0) l := sumZ_congr (fun x hx => if_neg (lt_ne (h1.1 x hx)))
      rw [sumZ_zero] at this
      omega
    · rw [if_neg (fun e => lt_ne (h1.1 y hy') e.symm), ih h1.2 hy']; omega
theorem sumZ_sub {α : Type} {f : α → Int} {l m : List α} (k : m.Sublist l) (h : ∀ x ∈ l, 0 ≤ f x) : sumZ f m ≤ sumZ f l := by
  induction k with
  | slnil => exact Int.le_refl _
  | cons x k ih =>
    have h1 := h x (by simp)
    have h2 := ih (fun y hy => h y (by simp [hy]))
    simp only [sumZ]; omega
  | cons_cons x k ih =>
    have h2 := ih (fun y hy => h y (by simp [hy]))
    simp only [sumZ]; omega

/-! ### what stands under a name -/
theorem hasJob_iff (l : List JobD) (x : ByteArray) : hasJob l x = true ↔ ∃ j ∈ l, j.name = x := by simp [hasJob]
theorem hasNode_iff (l : List NodeD) (x : ByteArray) : hasNode l x = true ↔ ∃ j ∈ l, j.name = x := by simp [hasNode]
theorem hasLease_iff (l : List LeaseD) (x : ByteArray) : hasLease l x = true ↔ ∃ j ∈ l, j.job = x := by simp [hasLease]
theorem leaseE_zero (jobs : List JobD) (nodes : List NodeD) (l : LeaseD) : leaseE jobs nodes l = 0 ↔ hasJob jobs l.job = true ∧ hasNode nodes l.node = true ∧ 0 ≤ l.til ∧ l.til ≤ 1099511627776 := by
  unfold leaseE
  by_cases h : (hasJob jobs l.job && hasNode nodes l.node) = true
  · rw [if_pos h]
    rw [Bool.and_eq_true] at h
    by_cases h2 : inR l.til 0 1099511627776 = true
    · rw [if_pos h2]; exact ⟨fun _ => ⟨h.1, h.2, (inR_iff _ _ _).1 h2⟩, fun _ => rfl⟩
    · rw [if_neg h2]; exact ⟨fun k => absurd k (by omega), fun k => absurd ((inR_iff _ _ _).2 k.2.2) h2⟩
  · rw [if_neg h]
    rw [Bool.and_eq_true] at h
    exact ⟨fun k => absurd k (by omega), fun k => absurd ⟨k.1, k.2.1⟩ h⟩
theorem jobE_zero (j : JobD) : jobE U j = 0 ↔ (isName U j.name = true ∧ isNote U j.tag = true) ∧ (-1000 ≤ j.prio ∧ j.prio ≤ 1000) ∧ (0 ≤ j.need ∧ j.need ≤ 1000000) ∧ (0 ≤ j.tries ∧ j.tries ≤ 100) := by
  unfold jobE
  by_cases h : (isName U j.name && isNote U j.tag) = true
  · rw [if_pos h]
    rw [Bool.and_eq_true] at h
    by_cases h2 : (inR j.prio (-1000) 1000 && inR j.need 0 1000000 && inR j.tries 0 100) = true
    · rw [if_pos h2]
      rw [Bool.and_eq_true, Bool.and_eq_true, inR_iff, inR_iff, inR_iff] at h2
      exact ⟨fun _ => ⟨h, h2.1.1, h2.1.2, h2.2⟩, fun _ => rfl⟩
    · rw [if_neg h2]
      rw [Bool.and_eq_true, Bool.and_eq_true, inR_iff, inR_iff, inR_iff] at h2
      exact ⟨fun k => absurd k (by omega), fun k => absurd ⟨⟨k.2.1, k.2.2.1⟩, k.2.2.2⟩ h2⟩
  · rw [if_neg h]
    rw [Bool.and_eq_true] at h
    exact ⟨fun k => absurd k (by omega), fun k => absurd k.1 h⟩
theorem nodeE_zero (n : NodeD) : nodeE U n = 0 ↔ (isName U n.name = true ∧ isNote U n.zone = true) ∧ (0 ≤ n.room ∧ n.room ≤ 1000000) := by
  unfold nodeE
  by_cases h : (isName U n.name && isNote U n.zone) = true
  · rw [if_pos h]
    rw [Bool.and_eq_true] at h
    by_cases h2 : inR n.room 0 1000000 = true
    · rw [if_pos h2]; exact ⟨fun _ => ⟨h, (inR_iff _ _ _).1 h2⟩, fun _ => rfl⟩
    · rw [if_neg h2]; exact ⟨fun k => absurd k (by omega), fun k => absurd ((inR_iff _ _ _).2 k.2) h2⟩
  · rw [if_neg h]
    rw [Bool.and_eq_true] at h
    exact ⟨fun k => absurd k (by omega), fun k => absurd k.1 h⟩
theorem needOf_bd {jobs : List JobD} (h : ∀ j ∈ jobs, jobE U j = 0) (x : ByteArray) : 0 ≤ needOf jobs x ∧ needOf jobs x ≤ 1000000 := by
  induction jobs with
  | nil => simp [needOf]
  | cons j r ih =>
    have h1 := ((jobE_zero U j).1 (h j (by simp))).2.2.1
    have h2 := ih (fun k hk => h k (by simp [hk]))
    simp only [needOf]
    split
    · exact h1
    · exact h2
theorem needOf_mem {jobs : List JobD} (h : Asc (·.name) jobs) {j : JobD} (hj : j ∈ jobs) : needOf jobs j.name = j.need := by
  induction jobs with
  | nil => cases hj
  | cons k r ih =>
    have h1 := List.pairwise_cons.1 h
    simp only [needOf]
    rcases List.mem_cons.1 hj with rfl | hj'
    · rw [if_pos rfl]
    · rw [if_neg (lt_ne (h1.1 j hj')), ih h1.2 hj']
theorem useOf_bd {jobs : List JobD} (h : ∀ j ∈ jobs, jobE U j = 0) (node : ByteArray) (l : LeaseD) : 0 ≤ useOf jobs node l ∧ useOf jobs node l ≤ 1000000 := by
  have := needOf_bd U h l.job
  unfold useOf
  split <;> omega
/-- Sums of what is used stay small. -/
theorem used_bd {jobs : List JobD} (h : ∀ j ∈ jobs, jobE U j = 0) (node : ByteArray) (l : List LeaseD) : 0 ≤ usedD jobs l node ∧ usedD jobs l node ≤ 1000000 * l.length :=
  ⟨sumZ_nonneg (fun x _ => (useOf_bd U h node x).1), sumZ_bound (fun x _ => (useOf_bd U h node x).2)⟩
end
section
variable {U : ByteArray → Bool}
/-! ### StateLess -/
theorem less_lease {s : StD} (h : Valid U s) (i : Nat) : Valid U { s with leases := s.leases.take i ++ s.leases.drop (i + 1) } := by
  obtain ⟨h1, ⟨h2, h3, h4⟩, hj, hn, ⟨h5, h6⟩, h7⟩ := h
  have hsub := without_sub s.leases i
  refine ⟨h1, ⟨h2, Nat.le_trans hsub.length_le h3, h4⟩, hj, hn, ⟨fun l hl => h5 l (hsub.subset hl), asc_sub h6 hsub⟩, fun n hm => ?_⟩
  exact Int.le_trans (sumZ_sub hsub (fun x _ => (useOf_bd U hj.1 n.name x).1)) (h7 n hm)
theorem needOf_without {jobs : List JobD} {x : ByteArray} (i : Nat) (hi : i < jobs.length) (hx : x ≠ jobs[i].name) : needOf (jobs.take i ++ jobs.drop (i + 1)) x = needOf jobs x := by
  induction jobs generalizing i with
  | nil => simp at hi
  | cons j r ih =>
    cases i with
    | zero =>
      simp only [List.getElem_cons_zero] at hx
      simp only [List.take_zero, List.nil_append, Nat.zero_add, List.drop_succ_cons, List.drop_zero, needOf]
      rw [if_neg (fun e => hx e.symm)]
    | succ i =>
      simp only [List.getElem_cons_succ] at hx
      simp only [List.take_succ_cons, List.cons_append, List.drop_succ_cons, needOf]
      rw [ih i (by simpa using hi) hx]
theorem less_job {s : StD} (h : Valid U s) (i : Nat) (hi : i < s.jobs.length) : checkE U { s with jobs := s.jobs.take i ++ s.jobs.drop (i + 1) } = 0 ↔ hasLease s.leases s.jobs[i].name = false := by
  obtain ⟨h1, ⟨h2, h3, h4⟩, hj, hn, ⟨h5, h6⟩, h7⟩ := h
  have hsub := without_sub s.jobs i
  have hne := asc_ne hj.2 i hi
  rw [check_zero]
  constructor
  · rintro ⟨_, _, _, _, ⟨k5, _⟩, _⟩
    cases hl : hasLease s.leases s.jobs[i].name with
    | false => rfl
    | true =>
      obtain ⟨l, hl1, hl2⟩ := (hasLease_iff _ _).1 hl
      obtain ⟨j, hj1, hj2⟩ := (hasJob_iff _ _).1 ((leaseE_zero _ _ _).1 (k5 l hl1)).1
      exact absurd (hj2.trans hl2) (hne j hj1)
  · intro hl
    have hnl : ∀ l ∈ s.leases, l.job ≠ s.jobs[i].name := by
      intro l hm e
      have : hasLease s.leases s.jobs[i].name = true := (hasLease_iff _ _).2 ⟨l, hm, e⟩
      rw [hl] at this
      cases this
    refine ⟨h1, ⟨Nat.le_trans hsub.length_le h2, h3, h4⟩, ⟨fun j hm => hj.1 j (hsub.subset hm), asc_sub hj.2 hsub⟩, hn, ⟨fun l hm => ?_, h6⟩, fun n hm => ?_⟩
    · have k := (leaseE_zero _ _ _).1 (h5 l hm)
      refine (leaseE_zero _ _ _).2 ⟨?_, k.2⟩
      obtain ⟨j, hj1, hj2⟩ := (hasJob_iff _ _).1 k.1
      refine (hasJob_iff _ _).2 ⟨j, ?_, hj2⟩
      have e : s.jobs = s.jobs.take i ++ s.jobs[i] :: s.jobs.drop (i + 1) := by rw [← List.drop_eq_getElem_cons hi, List.take_append_drop]
      rw [e, List.mem_append, List.mem_cons] at hj1
      rcases hj1 with hj1 | rfl | hj1
      · exact List.mem_append.2 (.inl hj1)
      · exact absurd hj2.symm (hnl l hm)
      · exact List.mem_append.2 (.inr hj1)
    · have e : usedD (s.jobs.take i ++ s.jobs.drop (i + 1)) s.leases n.name = usedD s.jobs s.leases n.name := by
        refine sumZ_congr (fun l hl => ?_)
        unfold useOf
        rw [needOf_without i hi (hnl l hl)]
      show usedD (s.jobs.take i ++ s.jobs.drop (i + 1)) s.leases n.name ≤ n.room
      rw [e]; exact h7 n hm
/-! ### StateSums -/
theorem sums {s : StD} (h : Valid U s) : sumZ (fun n => usedD s.jobs s.leases n.name) s.nodes = sumZ (fun j => if hasLease s.leases j.name = true then j.need else 0) s.jobs := by
  obtain ⟨_, _, hj, hn, ⟨h5, h6⟩, _⟩ := h
  have a1 : sumZ (fun n => usedD s.jobs s.leases n.name) s.nodes = sumZ (fun l => needOf s.jobs l.job) s.leases := by
    refine (sumZ_swap (fun (n : NodeD) (l : LeaseD) => useOf s.jobs n.name l) s.nodes s.leases).trans (sumZ_congr (fun l hl => ?_))
    obtain ⟨m, hm1, hm2⟩ := (hasNode_iff _ _).1 ((leaseE_zero _ _ _).1 (h5 l hl)).2.1
    have := sumZ_pick hn.2 (fun _ => needOf s.jobs l.job) hm1
    rw [hm2] at this
    exact this
  have a2 : sumZ (fun j => if hasLease s.leases j.name = true then j.need else 0) s.jobs = sumZ (fun j => sumZ (fun l => if l.job = j.name then j.need else 0) s.leases) s.jobs := by
    refine sumZ_congr (fun j hj' => ?_)
    by_cases hl : hasLease s.leases j.name = true
    · rw [if_pos hl]
      obtain ⟨l, hl1, hl2⟩ := (hasLease_iff _ _).1 hl
      have := sumZ_pick h6 (fun _ => j.need) hl1
      simp only [hl2] at this
      refine this.symm.trans (sumZ_congr (fun x _ => ?_))
      by_cases e : x.job = j.name
      · rw [if_pos e, if_pos e.symm]
      · rw [if_neg e, if_neg (fun h => e h.symm)]
    · rw [if_neg hl]
      have : sumZ (fun l => if l.job = j.name then j.need else 0) s.leases = sumZ (fun _ => 0) s.leases := sumZ_congr (fun l hm => if_neg (fun e => hl ((hasLease_iff _ _).2 ⟨l, hm, e⟩)))
      rw [this, sumZ_zero]
  rw [a1, a2]
  refine ((sumZ_swap (fun (j : JobD) (l : LeaseD) => if l.job = j.name then j.need else 0) s.jobs s.leases).trans (sumZ_congr (fun l hl => ?_))).symm
  obtain ⟨j, hj1, hj2⟩ := (hasJob_iff _ _).1 ((leaseE_zero _ _ _).1 (h5 l hl)).1
  have := sumZ_pick hj.2 (fun j => j.need) hj1
  simp only [hj2] at this
  rw [this, ← hj2, needOf_mem hj.2 hj1]
/-! ### StateMore -/
theorem asc_insert {α : Type} {key : α → ByteArray} {a b : List α} {n : α} (h : Asc key (a ++ b)) (ha : ∀ x ∈ a, lt (key x) (key n)) (hb : ∀ x ∈ b, lt (key n) (key x)) : Asc key (a ++ n :: b) := by
  unfold Asc at h ⊢
  rw [List.pairwise_append] at h
  rw [List.pairwise_append, List.pairwise_cons]
  refine ⟨h.1, ⟨hb, h.2.1⟩, fun x hx y hy => ?_⟩
  rcases List.mem_cons.1 hy with rfl | hy'
  · exact ha x hx
  · exact h.2.2 x hx y hy'
/-- Behind the first row whose key is not below: all others are above. -/
theorem asc_behind {α : Type} {key : α → ByteArray} {l : List α} (h : Asc key l) (k : Nat) {x : ByteArray} (hx : ∀ y ∈ l, key y ≠ x) (hk : ∀ h : k < l.length, ¬ lt (key l[k]) x) : ∀ y ∈ l.drop k, lt x (key y) := by
  intro y hy
  by_cases hl : k < l.length
  · have h1 : lt x (key l[k]) := by
      rcases lt_or (hx l[k] (List.getElem_mem _)) with h2 | h2
      · exact absurd h2 (hk hl)
      · exact h2
    have h3 : Asc key (l.drop k) := asc_sub h (List.drop_sublist k l)
    rw [List.drop_eq_getElem_cons hl] at hy h3
    rcases List.mem_cons.1 hy with rfl | hy'
    · exact h1
    · exact lt_trans h1 ((List.pairwise_cons.1 h3).1 y hy')
  · rw [List.drop_of_length_le (by omega)] at hy
    cases hy
theorem more_node {s : StD} (h : Valid U s) (n : NodeD) (hn : nodeE U n = 0) (hlen : s.nodes.length ≤ 19) (hnew : hasNode s.nodes n.name = false) (k : Nat) (hk : ∀ x ∈ s.nodes.take k, lt x.name n.name) (hk2 : ∀ h : k < s.nodes.length, ¬ lt s.nodes[k].name n.name) :
    Valid U { s with nodes := s.nodes.take k ++ n :: s.nodes.drop k } := by
  obtain ⟨h1, ⟨h2, h3, h4⟩, hj, ⟨hn1, hn2⟩, ⟨h5, h6⟩, h7⟩ := h
  have hne : ∀ x ∈ s.nodes, x.name ≠ n.name := by
    intro x hx e
    have : hasNode s.nodes n.name = true := (hasNode_iff _ _).2 ⟨x, hx, e⟩
    rw [hnew] at this
    cases this
  have hmem : ∀ x, x ∈ s.nodes.take k ++ n :: s.nodes.drop k ↔ x = n ∨ x ∈ s.nodes := by
    intro x
    have e : x ∈ s.nodes ↔ x ∈ s.nodes.take k ∨ x ∈ s.nodes.drop k := by rw [← List.mem_append, List.take_append_drop]
    rw [e, List.mem_append, List.mem_cons]
    constructor
    · rintro (a | a | a)
      · exact .inr (.inl a)
      · exact .inl a
      · exact .inr (.inr a)
    · rintro (a | a | a)
      · exact .inr (.inl a)
      · exact .inl a
      · exact .inr (.inr a)
  refine ⟨h1, ⟨h2, h3, ?_⟩, hj, ⟨fun x hx => ?_, asc_insert (by rw [List.take_append_drop]; exact hn2) hk (asc_behind hn2 k hne hk2)⟩, ⟨fun l hl => ?_, h6⟩, fun x hx => ?_⟩
  · show (s.nodes.take k ++ n :: s.nodes.drop k).length ≤ 20
    simp only [List.length_append, List.length_cons, List.length_take, List.length_drop]
    omega
  · rcases (hmem x).1 hx with rfl | hx'
    · exact hn
    · exact hn1 x hx'
  · have q := (leaseE_zero _ _ _).1 (h5 l hl)
    refine (leaseE_zero _ _ _).2 ⟨q.1, ?_, q.2.2⟩
    obtain ⟨m, hm1, hm2⟩ := (hasNode_iff _ _).1 q.2.1
    exact (hasNode_iff _ _).2 ⟨m, (hmem m).2 (.inr hm1), hm2⟩
  · rcases (hmem x).1 hx with rfl | hx'
    · have hz : usedD s.jobs s.leases x.name = sumZ (fun _ => 0) s.leases := by
        refine sumZ_congr (fun l hl => if_neg (fun e => ?_))
        obtain ⟨m, hm1, hm2⟩ := (hasNode_iff _ _).1 ((leaseE_zero _ _ _).1 (h5 l hl)).2.1
        exact hne m hm1 (hm2.trans e)
      rw [sumZ_zero] at hz
      show usedD s.jobs s.leases x.name ≤ x.room
      rw [hz]; exact ((nodeE_zero U x).1 hn).2.1
    · exact h7 x hx'
/-! ### StateRooms -/
theorem asc_map {α : Type} {key : α → ByteArray} {l m : List α} (e : l.map key = m.map key) (h : Asc key l) : Asc key m := by
  have h1 : (l.map key).Pairwise lt := List.pairwise_map.2 h
  rw [e] at h1
  exact List.pairwise_map.1 h1
theorem map_set {α β : Type} (f : α → β) (l : List α) (i : Nat) (hi : i < l.length) (y : α) (h : f y = f l[i]) : (l.set i y).map f = l.map f := by
  rw [List.map_set, h]
  have : (l.map f).set i ((l.map f)[i]'(by simpa using hi)) = l.map f := List.set_getElem_self _
  simpa using this
theorem hasJob_map {l m : List JobD} (e : l.map (·.name) = m.map (·.name)) (x : ByteArray) (h : hasJob l x = true) : hasJob m x = true := by
  obtain ⟨j, hj, hx⟩ := (hasJob_iff _ _).1 h
  have : x ∈ m.map (·.name) := by rw [← e]; exact List.mem_map.2 ⟨j, hj, hx⟩
  obtain ⟨k, hk, hk2⟩ := List.mem_map.1 this
  exact (hasJob_iff _ _).2 ⟨k, hk, hk2⟩
theorem hasNode_map {l m : List NodeD} (e : l.map (·.name) = m.map (·.name)) (x : ByteArray) (h : hasNode l x = true) : hasNode m x = true := by
  obtain ⟨j, hj, hx⟩ := (hasNode_iff _ _).1 h
  have : x ∈ m.map (·.name) := by rw [← e]; exact List.mem_map.2 ⟨j, hj, hx⟩
  obtain ⟨k, hk, hk2⟩ := List.mem_map.1 this
  exact (hasNode_iff _ _).2 ⟨k, hk, hk2⟩
theorem needOf_set (jobs : List JobD) (i : Nat) (hi : i < jobs.length) (d : Int) (hd : d ≤ jobs[i].need) (x : ByteArray) : needOf (jobs.set i { jobs[i] with need := d }) x ≤ needOf jobs x := by
  induction jobs generalizing i with
  | nil => simp at hi
  | cons j r ih =>
    cases i with
    | zero =>
      simp only [List.getElem_cons_zero] at hd
      simp only [List.set_cons_zero, List.getElem_cons_zero, needOf]
      split <;> omega
    | succ i =>
      simp only [List.getElem_cons_succ] at hd
      simp only [List.set_cons_succ, List.getElem_cons_succ, needOf]
      split
      · omega
      · exact ih i (by simpa using hi) hd
theorem rooms_node {s : StD} (h : Valid U s) (i : Nat) (hi : i < s.nodes.length) (d : Int) (h0 : s.nodes[i].room ≤ d) (hd : d ≤ 1000000) : Valid U { s with nodes := s.nodes.set i { s.nodes[i] with room := d } } := by
  obtain ⟨h1, ⟨h2, h3, h4⟩, hj, ⟨hn1, hn2⟩, ⟨h5, h6⟩, h7⟩ := h
  have e : (s.nodes.set i { s.nodes[i] with room := d }).map (·.name) = s.nodes.map (·.name) := map_set _ _ _ hi _ rfl
  have hz := (nodeE_zero U s.nodes[i]).1 (hn1 _ (List.getElem_mem _))
  refine ⟨h1, ⟨h2, h3, by simpa using h4⟩, hj, ⟨fun x hx => ?_, asc_map e.symm hn2⟩, ⟨fun l hl => ?_, h6⟩, fun x hx => ?_⟩
  · rcases List.mem_or_eq_of_mem_set hx with hx | rfl
    · exact hn1 x hx
    · exact (nodeE_zero U _).2 ⟨hz.1, by show 0 ≤ d; omega, hd⟩
  · have q := (leaseE_zero _ _ _).1 (h5 l hl)
    exact (leaseE_zero _ _ _).2 ⟨q.1, hasNode_map e.symm _ q.2.1, q.2.2⟩
  · rcases List.mem_or_eq_of_mem_set hx with hx | rfl
    · exact h7 x hx
    · exact Int.le_trans (h7 s.nodes[i] (List.getElem_mem _)) h0
theorem rooms_job {s : StD} (h : Valid U s) (i : Nat) (hi : i < s.jobs.length) (d : Int) (h0 : 0 ≤ d) (hd : d ≤ s.jobs[i].need) : Valid U { s with jobs := s.jobs.set i { s.jobs[i] with need := d } } := by
  obtain ⟨h1, ⟨h2, h3, h4⟩, ⟨hj1, hj2⟩, hn, ⟨h5, h6⟩, h7⟩ := h
  have e : (s.jobs.set i { s.jobs[i] with need := d }).map (·.name) = s.jobs.map (·.name) := map_set _ _ _ hi _ rfl
  have hz := (jobE_zero U s.jobs[i]).1 (hj1 _ (List.getElem_mem _))
  refine ⟨h1, ⟨by simpa using h2, h3, h4⟩, ⟨fun x hx => ?_, asc_map e.symm hj2⟩, hn, ⟨fun l hl => ?_, h6⟩, fun x hx => ?_⟩
  · rcases List.mem_or_eq_of_mem_set hx with hx | rfl
    · exact hj1 x hx
    · exact (jobE_zero U _).2 ⟨hz.1, hz.2.1, ⟨h0, by show d ≤ 1000000; omega⟩, hz.2.2.2⟩
  · have q := (leaseE_zero _ _ _).1 (h5 l hl)
    exact (leaseE_zero _ _ _).2 ⟨hasJob_map e.symm _ q.1, q.2⟩
  · refine Int.le_trans (sumZ_le (fun l _ => ?_)) (h7 x hx)
    unfold useOf
    split
    · exact needOf_set s.jobs i hi d hd l.job
    · exact Int.le_refl _
/-! ### Fits -/
def fitsD (s : StD) (v : Int) : Bool :=
  (decide (3 ≤ v) || decide (s.rev = 0)) && s.jobs.all (fun j => (decide (3 ≤ v) || decide (j.tag.size = 0)) && (decide (2 ≤ v) || decide (j.tries = 0))) && s.nodes.all (fun n => decide (2 ≤ v) || decide (n.zone.size = 0))
theorem fits_later {s : StD} {v v' : Int} (h : fitsD s v = true) (hv : v ≤ v') : fitsD s v' = true := by
  simp only [fitsD, Bool.and_eq_true, Bool.or_eq_true, List.all_eq_true, decide_eq_true_eq] at h ⊢
  obtain ⟨⟨h1, h2⟩, h3⟩ := h
  exact ⟨⟨by omega, fun j hj => ⟨by have := (h2 j hj).1; omega, by have := (h2 j hj).2; omega⟩⟩, fun n hn => by have := h3 n hn; omega⟩
theorem fits_three (s : StD) : fitsD s 3 = true := by simp [fitsD]
end
end Go.Proofs.YtdbopgmckndmeaaDoor
