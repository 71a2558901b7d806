import Derived.Test.YtiekgafopalfmaaGreatDoorRows
import Derived.Laws.Strings
import Derived.Maps.OwnSet
import Derived.Lib.SmallJoins
import Derived.OpenShut
import Derived.ShutString
import Derived.SizedLaws
import Derived.ChangeOld
import Derived.Deep.Slices
import Derived.Deep.Fields
import Derived.ChangeSame
import Derived.Carry
import Derived.WalkKit
import Derived.WalkSpells
import Derived.ProofKit
import Derived.Below
import Derived.Lib.Hide
import Derived.RegionTactic
import Derived.BigRegion
import Derived.Maps.OwnOps
import Derived.Deep.RegionHeld3
import Derived.Laws.Cover1
/- Plain facts on scheduler states (no program): what Check, Fits and Used answer, and what follows of a valid state. U stands for 'is valid UTF-8'. -/
namespace Go.Proofs.YtiekgafopalfmaaGreatDoor

structure JobD where
  name : ByteArray
  prio : Int
  need : Int
  tries : Int
  tag : ByteArray
structure NodeD where
  name : ByteArray
  room : Int
  zone : ByteArray
structure LeaseD where
  job : ByteArray
  node : ByteArray
  til : Int
structure StD where
  rev : Int
  jobs : List JobD
  nodes : List NodeD
  leases : List LeaseD

/-! ### the order of names -/
def lt (a b : ByteArray) : Prop := a.data.toList < b.data.toList
instance (a b : ByteArray) : Decidable (lt a b) := inferInstanceAs (Decidable (a.data.toList < b.data.toList))
theorem lt_irrefl (a : ByteArray) : ¬ lt a a := List.lt_irrefl _
theorem lt_trans {a b c : ByteArray} (h : lt a b) (k : lt b c) : lt a c := List.lt_trans h k
theorem lt_ne {a b : ByteArray} (h : lt a b) : a ≠ b := fun e => lt_irrefl b (e ▸ h)
theorem lt_or {a b : ByteArray} (h : a ≠ b) : lt a b ∨ lt b a := by
  by_cases h1 : lt a b
  · exact .inl h1
  · by_cases h2 : lt b a
    · exact .inr h2
    · exact absurd (List.le_antisymm (List.not_lt.1 h2) (List.not_lt.1 h1)) (fun e => h (by
        cases a; cases b; simp only [ByteArray.mk.injEq]; exact Array.toList_inj.1 e))

/-! ### sums -/
def sumZ {α : Type} (f : α → Int) : List α → Int
  | [] => 0
  | x :: l => f x + sumZ f l
theorem sumZ_append {α : Type} (f : α → Int) (a b : List α) : sumZ f (a ++ b) = sumZ f a + sumZ f b := by
  induction a with
  | nil => simp [sumZ]
  | cons x a ih => simp only [List.cons_append, sumZ, ih]; omega
theorem sumZ_congr {α : Type} {f g : α → Int} {l : List α} (h : ∀ x ∈ l, f x = g x) : sumZ f l = sumZ g l := by
  induction l with
  | nil => rfl
  | cons x l ih => simp only [sumZ]; rw [h x (by simp), ih (fun y hy => h y (by simp [hy]))]
theorem sumZ_le {α : Type} {f g : α → Int} {l : List α} (h : ∀ x ∈ l, f x ≤ g x) : sumZ f l ≤ sumZ g l := by
  induction l with
  | nil => simp [sumZ]
  | cons x l ih =>
    have h1 := h x (by simp)
    have h2 := ih (fun y hy => h y (by simp [hy]))
    simp only [sumZ]; omega
theorem sumZ_nonneg {α : Type} {f : α → Int} {l : List α} (h : ∀ x ∈ l, 0 ≤ f x) : 0 ≤ sumZ f l := by
  induction l with
  | nil => simp [sumZ]
  | cons x l ih =>
    have h1 := h x (by simp)
    have h2 := ih (fun y hy => h y (by simp [hy]))
    simp only [sumZ]; omega
theorem sumZ_bound {α : Type} {f : α → Int} {l : List α} {M : Int} (h : ∀ x ∈ l, f x ≤ M) : sumZ f l ≤ M * l.length := by
  induction l with
  | nil => simp [sumZ]
  | cons x l ih =>
    have h1 := h x (by simp)
    have h2 := ih (fun y hy => h y (by simp [hy]))
    have e : M * ((l.length + 1 : Nat) : Int) = M * (l.length : Int) + M := by rw [Int.natCast_add, Int.mul_add]; simp
    simp only [sumZ, List.length_cons]
    omega
theorem sumZ_zero {α : Type} (l : List α) : sumZ (fun _ => 0) l = 0 := by
  induction l with
  | nil => rfl
  | cons x l ih => simp only [sumZ, ih]; rfl
theorem sumZ_add {α : Type} (f g : α → Int) (l : List α) : sumZ (fun x => f x + g x) l = sumZ f l + sumZ g l := by
  induction l with
  | nil => rfl
  | cons x l ih => simp only [sumZ, ih]; omega
theorem sumZ_swap {α β : Type} (f : α → β → Int) (l : List α) (m : List β) : sumZ (fun x => sumZ (f x) m) l = sumZ (fun y => sumZ (fun x => f x y) l) m := by
  induction l with
  | nil => simp only [sumZ]; rw [sumZ_zero]
  | cons x l ih => simp only [sumZ]; rw [ih, ← sumZ_add]

/-! ### Check -/
section
variable (U : ByteArray → Bool)
def isNote (s : ByteArray) : Bool := decide (s.size ≤ 16) && U s
def isName (s : ByteArray) : Bool := decide (s.size ≠ 0) && isNote U s
def inR (n lo hi : Int) : Bool := decide (lo ≤ n) && decide (n ≤ hi)
def jobE (j : JobD) : Nat := if isName U j.name && isNote U j.tag then (if inR j.prio (-1000) 1000 && inR j.need 0 1000000 && inR j.tries 0 100 then 0 else 1) else 4
def nodeE (n : NodeD) : Nat := if isName U n.name && isNote U n.zone then (if inR n.room 0 1000000 then 0 else 1) else 4
def needOf : List JobD → ByteArray → Int
  | [], _ => 0
  | j :: r, x => if j.name = x then j.need else needOf r x
def hasJob (l : List JobD) (x : ByteArray) : Bool := l.any fun j => decide (j.name = x)
def hasNode (l : List NodeD) (x : ByteArray) : Bool := l.any fun n => decide (n.name = x)
def hasLease (l : List LeaseD) (x : ByteArray) : Bool := l.any fun y => decide (y.job = x)
def leaseE (jobs : List JobD) (nodes : List NodeD) (l : LeaseD) : Nat := if hasJob jobs l.job && hasNode nodes l.node then (if inR l.til 0 1099511627776 then 0 else 1) else 6
def badO (p : Option ByteArray) (k : ByteArray) : Bool := match p with | none => false | some q => !decide (lt q k)
/-- The rows from here on; p: the key of the row before. -/
def rowsE {α : Type} (E : α → Nat) (key : α → ByteArray) : Option ByteArray → List α → Nat
  | _, [] => 0
  | p, x :: r => if E x ≠ 0 then E x else if badO p (key x) then 8 else rowsE E key (some (key x)) r
def useOf (jobs : List JobD) (node : ByteArray) (l : LeaseD) : Int := if l.node = node then needOf jobs l.job else 0
def usedD (jobs : List JobD) (leases : List LeaseD) (node : ByteArray) : Int := sumZ (useOf jobs node) leases
def roomE (jobs : List JobD) (leases : List LeaseD) (nodes : List NodeD) : Nat := if nodes.all (fun n => decide (usedD jobs leases n.name ≤ n.room)) then 0 else 9
def orE (a b : Nat) : Nat := if a ≠ 0 then a else b
def headSE (s : StD) : Nat := if inR s.rev 0 1099511627776 then (if s.jobs.length ≤ 40 ∧ s.leases.length ≤ 40 ∧ s.nodes.length ≤ 20 then 0 else 2) else 1
def checkE (s : StD) : Nat :=
  orE (headSE s) (orE (rowsE (jobE U) (·.name) none s.jobs) (orE (rowsE (nodeE U) (·.name) none s.nodes) (orE (rowsE (leaseE s.jobs s.nodes) (·.job) none s.leases) (roomE s.jobs s.leases s.nodes))))

/-! ### what a valid state is -/
def Asc {α : Type} (key : α → ByteArray) (l : List α) : Prop := l.Pairwise fun a b => lt (key a) (key b)
def Valid (s : StD) : Prop :=
  (0 ≤ s.rev ∧ s.rev ≤ 1099511627776) ∧ (s.jobs.length ≤ 40 ∧ s.leases.length ≤ 40 ∧ s.nodes.length ≤ 20) ∧ ((∀ j ∈ s.jobs, jobE U j = 0) ∧ Asc (·.name) s.jobs) ∧ ((∀ n ∈ s.nodes, nodeE U n = 0) ∧ Asc (·.name) s.nodes) ∧
  ((∀ l ∈ s.leases, leaseE s.jobs s.nodes l = 0) ∧ Asc (·.job) s.leases) ∧ ∀ n ∈ s.nodes, usedD s.jobs s.leases n.name ≤ n.room
theorem orE_zero (a b : Nat) : orE a b = 0 ↔ a = 0 ∧ b = 0 := by unfold orE; split <;> omega
theorem badO_no (p : Option ByteArray) (k : ByteArray) : badO p k = false ↔ ∀ q, p = some q → lt q k := by
  cases p with
  | none => simp [badO]
  | some q => simp [badO]
theorem rowsE_zero {α : Type} (E : α → Nat) (key : α → ByteArray) (p : Option ByteArray) (l : List α) : rowsE E key p l = 0 ↔ (∀ x ∈ l, E x = 0) ∧ (∀ q, p = some q → ∀ x ∈ l, lt q (key x)) ∧ Asc key l := by
  induction l generalizing p with
  | nil => simp [rowsE, Asc]
  | cons x r ih =>
    have hstep : rowsE E key p (x :: r) = 0 ↔ E x = 0 ∧ badO p (key x) = false ∧ rowsE E key (some (key x)) r = 0 := by
      rw [rowsE]
      by_cases h1 : E x ≠ 0
      · rw [if_pos h1]; exact ⟨fun h => absurd h h1, fun h => absurd h.1 h1⟩
      · rw [if_neg h1]
        have h1 : E x = 0 := by simpa using h1
        by_cases h2 : badO p (key x) = true
        · rw [if_pos h2]; simp [h2]
        · rw [if_neg h2]
          have h2 : badO p (key x) = false := by simpa using h2
          simp [h1, h2]
    rw [hstep, ih, badO_no]
    constructor
    · rintro ⟨h1, h2, h3, h4, h5⟩
      refine ⟨?_, ?_, ?_⟩
      · intro y hy
        rcases List.mem_cons.1 hy with rfl | hy
        · exact h1
        · exact h3 y hy
      · intro q hq y hy
        rcases List.mem_cons.1 hy with rfl | hy
        · exact h2 q hq
        · exact lt_trans (h2 q hq) (h4 _ rfl y hy)
      · exact List.pairwise_cons.2 ⟨fun y hy => h4 _ rfl y hy, h5⟩
    · rintro ⟨h1, h2, h3⟩
      have h3 := List.pairwise_cons.1 h3
      refine ⟨h1 x (by simp), fun q hq => h2 q hq x (by simp), fun y hy => h1 y (by simp [hy]), ?_, h3.2⟩
      intro q hq y hy
      simp only [Option.some.injEq] at hq
      subst hq
      exact h3.1 y hy
theorem inR_iff (n lo hi : Int) : inR n lo hi = true ↔ lo ≤ n ∧ n ≤ hi := by simp [inR]
theorem check_zero (s : StD) : checkE U s = 0 ↔ Valid U s := by
  unfold checkE Valid
  rw [orE_zero, orE_zero, orE_zero, orE_zero, rowsE_zero, rowsE_zero, rowsE_zero]
  have h1 : headSE s = 0 ↔ (0 ≤ s.rev ∧ s.rev ≤ 1099511627776) ∧ (s.jobs.length ≤ 40 ∧ s.leases.length ≤ 40 ∧ s.nodes.length ≤ 20) := by
    unfold headSE
    by_cases h : inR s.rev 0 1099511627776 = true
    · rw [if_pos h]
      have := (inR_iff _ _ _).1 h
      split <;> simp_all
    · rw [if_neg h]
      have : ¬ (0 ≤ s.rev ∧ s.rev ≤ 1099511627776) := fun k => h ((inR_iff _ _ _).2 k)
      exact ⟨fun k => absurd k (by omega), fun k => absurd k.1 this⟩
  have h2 : roomE s.jobs s.leases s.nodes = 0 ↔ ∀ n ∈ s.nodes, usedD s.jobs s.leases n.name ≤ n.room := by
    unfold roomE
    split
    · rename_i h; simp only [List.all_eq_true, decide_eq_true_eq] at h; exact ⟨fun _ => h, fun _ => rfl⟩
    · rename_i h
      simp only [List.all_eq_true, decide_eq_true_eq] at h
      exact ⟨fun k => absurd k (by omega), fun k => absurd k h⟩
  rw [h1, h2]
  simp only [reduceCtorEq, false_implies, implies_true, true_and, and_assoc]

/-! ### rows with ascending keys -/
theorem asc_ne {α : Type} {key : α → ByteArray} {l : List α} (h : Asc key l) (i : Nat) (hi : i < l.length) : ∀ x ∈ l.take i ++ l.drop (i + 1), key x ≠ key l[i] := by
  have e : l = l.take i ++ l[i] :: l.drop (i + 1) := by rw [← List.drop_eq_getElem_cons hi, List.take_append_drop]
  unfold Asc at h
  rw [e, List.pairwise_append, List.pairwise_cons] at h
  obtain ⟨_, ⟨h2, _⟩, h4⟩ := h
  intro x hx
  rcases List.mem_append.1 hx with h5 | h5
  · exact lt_ne (h4 x h5 _ List.mem_cons_self)
  · exact (lt_ne (h2 x h5)).symm
theorem asc_one {α : Type} {key : α → ByteArray} {l : List α} (h : Asc key l) {x y : α} (hx : x ∈ l) (hy : y ∈ l) (e : key x = key y) : x = y := by
  induction l with
  | nil => cases hx
  | cons z l ih =>
    have h1 := List.pairwise_cons.1 h
    rcases List.mem_cons.1 hx with rfl | hx'
    · rcases List.mem_cons.1 hy with rfl | hy'
      · rfl
      · exact absurd e (lt_ne (h1.1 y hy'))
    · rcases List.mem_cons.1 hy with rfl | hy'
      · exact absurd e.symm (lt_ne (h1.1 x hx'))
      · exact ih h1.2 hx' hy'
theorem without_sub {α : Type} (l : List α) (i : Nat) : (l.take i ++ l.drop (i + 1)).Sublist l := by
  rw [← List.eraseIdx_eq_take_drop_succ]; exact List.eraseIdx_sublist l i
theorem asc_sub {α : Type} {key : α → ByteArray} {l m : List α} (h : Asc key l) (k : m.Sublist l) : Asc key m := List.Pairwise.sublist k h
/-- The sum over rows with ascending keys of what stands at one key. -/
theorem sumZ_pick {α : Type} {key : α → ByteArray} {l : List α} (h : Asc key l) (c : α → Int) {y : α} (hy : y ∈ l) : sumZ (fun x => if key y = key x then c x else 0) l = c y := by
  induction l with
  | nil => cases hy
  | cons z l ih =>
    have h1 := List.pairwise_cons.1 h
    simp only [sumZ]
    rcases List.mem_cons.1 hy with rfl | hy'
    · rw [if_pos rfl]
      have : sumZ (fun x => if key y = key x then c x else 0) l = sumZ (fun _ => 0) l := sumZ_congr (fun x hx => if_neg (lt_ne (h1.1 x hx)))
      rw [sumZ_zero] at this
      omega
    · rw [if_neg (fun e => lt_ne (h1.1 y hy') e.symm), ih h1.2 hy']; omega
theorem sumZ_sub {α : Type} {f : α → Int} {l m : List α} (k : m.Sublist l) (h : ∀ x ∈ l, 0 ≤ f x) : sumZ f m ≤ sumZ f l := by
  induction k with
  | slnil => exact Int.le_refl _
  | cons x k ih =>
    have h1 := h x (by simp)
    have h2 := ih (fun y hy => h y (by simp [hy]))
    simp only [sumZ]; omega
  | cons_cons x k ih =>
    have h2 := ih (fun y hy => h y (by simp [hy]))
    simp only [sumZ]; omega

/-! ### what stands under a name -/
theorem hasJob_iff (l : List JobD) (x : ByteArray) : hasJob l x = true ↔ ∃ j ∈ l, j.name = x := by simp [hasJob]
theorem hasNode_iff (l : List NodeD) (x : ByteArray) : hasNode l x = true ↔ ∃ j ∈ l, j.name = x := by simp [hasNode]
theorem hasLease_iff (l : List LeaseD) (x : ByteArray) : hasLease l x = true ↔ ∃ j ∈ l, j.job = x := by simp [hasLease]
theorem leaseE_zero (jobs : List JobD) (nodes : List NodeD) (l : LeaseD) : leaseE jobs nodes l = 0 ↔ hasJob jobs l.job = true ∧ hasNode nodes l.node = true ∧ 0 ≤ l.til ∧ l.til ≤ 1099511627776 := by
  unfold leaseE
  by_cases h : (hasJob jobs l.job && hasNode nodes l.node) = true
  · rw [if_pos h]
    rw [Bool.and_eq_true] at h
    by_cases h2 : inR l.til 0 1099511627776 = true
    · rw [if_pos h2]; exact ⟨fun _ => ⟨h.1, h.2, (inR_iff _ _ _).1 h2⟩, fun _ => rfl⟩
    · rw [if_neg h2]; exact ⟨fun k => absurd k (by omega), fun k => absurd ((inR_iff _ _ _).2 k.2.2) h2⟩
  · rw [if_neg h]
    rw [Bool.and_eq_true] at h
    exact ⟨fun k => absurd k (by omega), fun k => absurd ⟨k.1, k.2.1⟩ h⟩
theorem jobE_zero (j : JobD) : jobE U j = 0 ↔ (isName U j.name = true ∧ isNote U j.tag = true) ∧ (-1000 ≤ j.prio ∧ j.prio ≤ 1000) ∧ (0 ≤ j.need ∧ j.need ≤ 1000000) ∧ (0 ≤ j.tries ∧ j.tries ≤ 100) := by
  unfold jobE
  by_cases h : (isName U j.name && isNote U j.tag) = true
  · rw [if_pos h]
    rw [Bool.and_eq_true] at h
    by_cases h2 : (inR j.prio (-1000) 1000 && inR j.need 0 1000000 && inR j.tries 0 100) = true
    · rw [if_pos h2]
      rw [Bool.and_eq_true, Bool.and_eq_true, inR_iff, inR_iff, inR_iff] at h2
      exact ⟨fun _ => ⟨h, h2.1.1, h2.1.2, h2.2⟩, fun _ => rfl⟩
    · rw [if_neg h2]
      rw [Bool.and_eq_true, Bool.and_eq_true, inR_iff, inR_iff, inR_iff] at h2
      exact ⟨fun k => absurd k (by omega), fun k => absurd ⟨⟨k.2.1, k.2.2.1⟩, k.2.2.2⟩ h2⟩
  · rw [if_neg h]
    rw [Bool.and_eq_true] at h
    exact ⟨fun k => absurd k (by omega), fun k => absurd k.1 h⟩
theorem nodeE_zero (n : NodeD) : nodeE U n = 0 ↔ (isName U n.name = true ∧ isNote U n.zone = true) ∧ (0 ≤ n.room ∧ n.room ≤ 1000000) := by
  unfold nodeE
  by_cases h : (isName U n.name && isNote U n.zone) = true
  · rw [if_pos h]
    rw [Bool.and_eq_true] at h
    by_cases h2 : inR n.room 0 1000000 = true
    · rw [if_pos h2]; exact ⟨fun _ => ⟨h, (inR_iff _ _ _).1 h2⟩, fun _ => rfl⟩
    · rw [if_neg h2]; exact ⟨fun k => absurd k (by omega), fun k => absurd ((inR_iff _ _ _).2 k.2) h2⟩
  · rw [if_neg h]
    rw [Bool.and_eq_true] at h
    exact ⟨fun k => absurd k (by omega), fun k => absurd k.1 h⟩
theorem needOf_bd {jobs : List JobD} (h : ∀ j ∈ jobs, jobE U j = 0) (x : ByteArray) : 0 ≤ needOf jobs x ∧ needOf jobs x ≤ 1000000 := by
  induction jobs with
  | nil => simp [needOf]
  | cons j r ih =>
    have h1 := ((jobE_zero U j).1 (h j (by simp))).2.2.1
    have h2 := ih (fun k hk => h k (by simp [hk]))
    simp only [needOf]
    split
    · exact h1
    · exact h2
theorem needOf_mem {jobs : List JobD} (h : Asc (·.name) jobs) {j : JobD} (hj : j ∈ jobs) : needOf jobs j.name = j.need := by
  induction jobs with
  | nil => cases hj
  | cons k r ih =>
    have h1 := List.pairwise_cons.1 h
    simp only [needOf]
    rcases List.mem_cons.1 hj with rfl | hj'
    · rw [if_pos rfl]
    · rw [if_neg (lt_ne (h1.1 j hj')), ih h1.2 hj']
theorem useOf_bd {jobs : List JobD} (h : ∀ j ∈ jobs, jobE U j = 0) (node : ByteArray) (l : LeaseD) : 0 ≤ useOf jobs node l ∧ useOf jobs node l ≤ 1000000 := by
  have := needOf_bd U h l.job
  unfold useOf
  split <;> omega
/-- Sums of what is used stay small. -/
theorem used_bd {jobs : List JobD} (h : ∀ j ∈ jobs, jobE U j = 0) (node : ByteArray) (l : List LeaseD) : 0 ≤ usedD jobs l node ∧ usedD jobs l node ≤ 1000000 * l.length :=
  ⟨sumZ_nonneg (fun x _ => (useOf_bd U h node x).1), sumZ_bound (fun x _ => (useOf_bd U h node x).2)⟩
end
section
variable {U : ByteArray → Bool}
/-! ### StateLess -/
theorem less_lease {s : StD} (h : Valid U s) (i : Nat) : Valid U { s with leases := s.leases.take i ++ s.leases.drop (i + 1) } := by
  obtain ⟨h1, ⟨h2, h3, h4⟩, hj, hn, ⟨h5, h6⟩, h7⟩ := h
  have hsub := without_sub s.leases i
  refine ⟨h1, ⟨h2, Nat.le_trans hsub.length_le h3, h4⟩, hj, hn, ⟨fun l hl => h5 l (hsub.subset hl), asc_sub h6 hsub⟩, fun n hm => ?_⟩
  exact Int.le_trans (sumZ_sub hsub (fun x _ => (useOf_bd U hj.1 n.name x).1)) (h7 n hm)
theorem needOf_without {jobs : List JobD} {x : ByteArray} (i : Nat) (hi : i < jobs.length) (hx : x ≠ jobs[i].name) : needOf (jobs.take i ++ jobs.drop (i + 1)) x = needOf jobs x := by
  induction jobs generalizing i with
  | nil => simp at hi
  | cons j r ih =>
    cases i with
    | zero =>
      simp only [List.getElem_cons_zero] at hx
      simp only [List.take_zero, List.nil_append, Nat.zero_add, List.drop_succ_cons, List.drop_zero, needOf]
      rw [if_neg (fun e => hx e.symm)]
    | succ i =>
      simp only [List.getElem_cons_succ] at hx
      simp only [List.take_succ_cons, List.cons_append, List.drop_succ_cons, needOf]
      rw [ih i (by simpa using hi) hx]
theorem less_job {s : StD} (h : Valid U s) (i : Nat) (hi : i < s.jobs.length) : checkE U { s with jobs := s.jobs.take i ++ s.jobs.drop (i + 1) } = 0 ↔ hasLease s.leases s.jobs[i].name = false := by
  obtain ⟨h1, ⟨h2, h3, h4⟩, hj, hn, ⟨h5, h6⟩, h7⟩ := h
  have hsub := without_sub s.jobs i
  have hne := asc_ne hj.2 i hi
  rw [check_zero]
  constructor
  · rintro ⟨_, _, _, _, ⟨k5, _⟩, _⟩
    cases hl : hasLease s.leases s.jobs[i].name with
    | false => rfl
    | true =>
      obtain ⟨l, hl1, hl2⟩ := (hasLease_iff _ _).1 hl
      obtain ⟨j, hj1, hj2⟩ := (hasJob_iff _ _).1 ((leaseE_zero _ _ _).1 (k5 l hl1)).1
      exact absurd (hj2.trans hl2) (hne j hj1)
  · intro hl
    have hnl : ∀ l ∈ s.leases, l.job ≠ s.jobs[i].name := by
      intro l hm e
      have : hasLease s.leases s.jobs[i].name = true := (hasLease_iff _ _).2 ⟨l, hm, e⟩
      rw [hl] at this
      cases this
    refine ⟨h1, ⟨Nat.le_trans hsub.length_le h2, h3, h4⟩, ⟨fun j hm => hj.1 j (hsub.subset hm), asc_sub hj.2 hsub⟩, hn, ⟨fun l hm => ?_, h6⟩, fun n hm => ?_⟩
    · have k := (leaseE_zero _ _ _).1 (h5 l hm)
      refine (leaseE_zero _ _ _).2 ⟨?_, k.2⟩
      obtain ⟨j, hj1, hj2⟩ := (hasJob_iff _ _).1 k.1
      refine (hasJob_iff _ _).2 ⟨j, ?_, hj2⟩
      have e : s.jobs = s.jobs.take i ++ s.jobs[i] :: s.jobs.drop (i + 1) := by rw [← List.drop_eq_getElem_cons hi, List.take_append_drop]
      rw [e, List.mem_append, List.mem_cons] at hj1
      rcases hj1 with hj1 | rfl | hj1
      · exact List.mem_append.2 (.inl hj1)
      · exact absurd hj2.symm (hnl l hm)
      · exact List.mem_append.2 (.inr hj1)
    · have e : usedD (s.jobs.take i ++ s.jobs.drop (i + 1)) s.leases n.name = usedD s.jobs s.leases n.name := by
        refine sumZ_congr (fun l hl => ?_)
        unfold useOf
        rw [needOf_without i hi (hnl l hl)]
      show usedD (s.jobs.take i ++ s.jobs.drop (i + 1)) s.leases n.name ≤ n.room
      rw [e]; exact h7 n hm
/-! ### StateSums -/
theorem sums {s : StD} (h : Valid U s) : sumZ (fun n => usedD s.jobs s.leases n.name) s.nodes = sumZ (fun j => if hasLease s.leases j.name = true then j.need else 0) s.jobs := by
  obtain ⟨_, _, hj, hn, ⟨h5, h6⟩, _⟩ := h
  have a1 : sumZ (fun n => usedD s.jobs s.leases n.name) s.nodes = sumZ (fun l => needOf s.jobs l.job) s.leases := by
    refine (sumZ_swap (fun (n : NodeD) (l : LeaseD) => useOf s.jobs n.name l) s.nodes s.leases).trans (sumZ_congr (fun l hl => ?_))
    obtain ⟨m, hm1, hm2⟩ := (hasNode_iff _ _).1 ((leaseE_zero _ _ _).1 (h5 l hl)).2.1
    have := sumZ_pick hn.2 (fun _ => needOf s.jobs l.job) hm1
    rw [hm2] at this
    exact this
  have a2 : sumZ (fun j => if hasLease s.leases j.name = true then j.need else 0) s.jobs = sumZ (fun j => sumZ (fun l => if l.job = j.name then j.need else 0) s.leases) s.jobs := by
    refine sumZ_congr (fun j hj' => ?_)
    by_cases hl : hasLease s.leases j.name = true
    · rw [if_pos hl]
      obtain ⟨l, hl1, hl2⟩ := (hasLease_iff _ _).1 hl
      have := sumZ_pick h6 (fun _ => j.need) hl1
      simp only [hl2] at this
      refine this.symm.trans (sumZ_congr (fun x _ => ?_))
      by_cases e : x.job = j.name
      · rw [if_pos e, if_pos e.symm]
      · rw [if_neg e, if_neg (fun h => e h.symm)]
    · rw [if_neg hl]
      have : sumZ (fun l => if l.job = j.name then j.need else 0) s.leases = sumZ (fun _ => 0) s.leases := sumZ_congr (fun l hm => if_neg (fun e => hl ((hasLease_iff _ _).2 ⟨l, hm, e⟩)))
      rw [this, sumZ_zero]
  rw [a1, a2]
  refine ((sumZ_swap (fun (j : JobD) (l : LeaseD) => if l.job = j.name then j.need else 0) s.jobs s.leases).trans (sumZ_congr (fun l hl => ?_))).symm
  obtain ⟨j, hj1, hj2⟩ := (hasJob_iff _ _).1 ((leaseE_zero _ _ _).1 (h5 l hl)).1
  have := sumZ_pick hj.2 (fun j => j.need) hj1
  simp only [hj2] at this
  rw [this, ← hj2, needOf_mem hj.2 hj1]
/-! ### StateMore -/
theorem asc_insert {α : Type} {key : α → ByteArray} {a b : List α} {n : α} (h : Asc key (a ++ b)) (ha : ∀ x ∈ a, lt (key x) (key n)) (hb : ∀ x ∈ b, lt (key n) (key x)) : Asc key (a ++ n :: b) := by
  unfold Asc at h ⊢
  rw [List.pairwise_append] at h
  rw [List.pairwise_append, List.pairwise_cons]
  refine ⟨h.1, ⟨hb, h.2.1⟩, fun x hx y hy => ?_⟩
  rcases List.mem_cons.1 hy with rfl | hy'
  · exact ha x hx
  · exact h.2.2 x hx y hy'
/-- Behind the first row whose key is not below: all others are above. -/
theorem asc_behind {α : Type} {key : α → ByteArray} {l : List α} (h : Asc key l) (k : Nat) {x : ByteArray} (hx : ∀ y ∈ l, key y ≠ x) (hk : ∀ h : k < l.length, ¬ lt (key l[k]) x) : ∀ y ∈ l.drop k, lt x (key y) := by
  intro y hy
  by_cases hl : k < l.length
  · have h1 : lt x (key l[k]) := by
      rcases lt_or (hx l[k] (List.getElem_mem _)) with h2 | h2
      · exact absurd h2 (hk hl)
      · exact h2
    have h3 : Asc key (l.drop k) := asc_sub h (List.drop_sublist k l)
    rw [List.drop_eq_getElem_cons hl] at hy h3
    rcases List.mem_cons.1 hy with rfl | hy'
    · exact h1
    · exact lt_trans h1 ((List.pairwise_cons.1 h3).1 y hy')
  · rw [List.drop_of_length_le (by omega)] at hy
    cases hy
theorem more_node {s : StD} (h : Valid U s) (n : NodeD) (hn : nodeE U n = 0) (hlen : s.nodes.length ≤ 19) (hnew : hasNode s.nodes n.name = false) (k : Nat) (hk : ∀ x ∈ s.nodes.take k, lt x.name n.name) (hk2 : ∀ h : k < s.nodes.length, ¬ lt s.nodes[k].name n.name) :
    Valid U { s with nodes := s.nodes.take k ++ n :: s.nodes.drop k } := by
  obtain ⟨h1, ⟨h2, h3, h4⟩, hj, ⟨hn1, hn2⟩, ⟨h5, h6⟩, h7⟩ := h
  have hne : ∀ x ∈ s.nodes, x.name ≠ n.name := by
    intro x hx e
    have : hasNode s.nodes n.name = true := (hasNode_iff _ _).2 ⟨x, hx, e⟩
    rw [hnew] at this
    cases this
  have hmem : ∀ x, x ∈ s.nodes.take k ++ n :: s.nodes.drop k ↔ x = n ∨ x ∈ s.nodes := by
    intro x
    have e : x ∈ s.nodes ↔ x ∈ s.nodes.take k ∨ x ∈ s.nodes.drop k := by rw [← List.mem_append, List.take_append_drop]
    rw [e, List.mem_append, List.mem_cons]
    constructor
    · rintro (a | a | a)
      · exact .inr (.inl a)
      · exact .inl a
      · exact .inr (.inr a)
    · rintro (a | a | a)
      · exact .inr (.inl a)
      · exact .inl a
      · exact .inr (.inr a)
  refine ⟨h1, ⟨h2, h3, ?_⟩, hj, ⟨fun x hx => ?_, asc_insert (by rw [List.take_append_drop]; exact hn2) hk (asc_behind hn2 k hne hk2)⟩, ⟨fun l hl => ?_, h6⟩, fun x hx => ?_⟩
  · show (s.nodes.take k ++ n :: s.nodes.drop k).length ≤ 20
    simp only [List.length_append, List.length_cons, List.length_take, List.length_drop]
    omega
  · rcases (hmem x).1 hx with rfl | hx'
    · exact hn
    · exact hn1 x hx'
  · have q := (leaseE_zero _ _ _).1 (h5 l hl)
    refine (leaseE_zero _ _ _).2 ⟨q.1, ?_, q.2.2⟩
    obtain ⟨m, hm1, hm2⟩ := (hasNode_iff _ _).1 q.2.1
    exact (hasNode_iff _ _).2 ⟨m, (hmem m).2 (.inr hm1), hm2⟩
  · rcases (hmem x).1 hx with rfl | hx'
    · have hz : usedD s.jobs s.leases x.name = sumZ (fun _ => 0) s.leases := by
        refine sumZ_congr (fun l hl => if_neg (fun e => ?_))
        obtain ⟨m, hm1, hm2⟩ := (hasNode_iff _ _).1 ((leaseE_zero _ _ _).1 (h5 l hl)).2.1
        exact hne m hm1 (hm2.trans e)
      rw [sumZ_zero] at hz
      show usedD s.jobs s.leases x.name ≤ x.room
      rw [hz]; exact ((nodeE_zero U x).1 hn).2.1
    · exact h7 x hx'
/-! ### StateRooms -/
theorem asc_map {α : Type} {key : α → ByteArray} {l m : List α} (e : l.map key = m.map key) (h : Asc key l) : Asc key m := by
  have h1 : (l.map key).Pairwise lt := List.pairwise_map.2 h
  rw [e] at h1
  exact List.pairwise_map.1 h1
theorem map_set {α β : Type} (f : α → β) (l : List α) (i : Nat) (hi : i < l.length) (y : α) (h : f y = f l[i]) : (l.set i y).map f = l.map f := by
  rw [List.map_set, h]
  have : (l.map f).set i ((l.map f)[i]'(by simpa using hi)) = l.map f := List.set_getElem_self _
  simpa using this
theorem hasJob_map {l m : List JobD} (e : l.map (·.name) = m.map (·.name)) (x : ByteArray) (h : hasJob l x = true) : hasJob m x = true := by
  obtain ⟨j, hj, hx⟩ := (hasJob_iff _ _).1 h
  have : x ∈ m.map (·.name) := by rw [← e]; exact List.mem_map.2 ⟨j, hj, hx⟩
  obtain ⟨k, hk, hk2⟩ := List.mem_map.1 this
  exact (hasJob_iff _ _).2 ⟨k, hk, hk2⟩
theorem hasNode_map {l m : List NodeD} (e : l.map (·.name) = m.map (·.name)) (x : ByteArray) (h : hasNode l x = true) : hasNode m x = true := by
  obtain ⟨j, hj, hx⟩ := (hasNode_iff _ _).1 h
  have : x ∈ m.map (·.name) := by rw [← e]; exact List.mem_map.2 ⟨j, hj, hx⟩
  obtain ⟨k, hk, hk2⟩ := List.mem_map.1 this
  exact (hasNode_iff _ _).2 ⟨k, hk, hk2⟩
theorem needOf_set (jobs : List JobD) (i : Nat) (hi : i < jobs.length) (d : Int) (hd : d ≤ jobs[i].need) (x : ByteArray) : needOf (jobs.set i { jobs[i] with need := d }) x ≤ needOf jobs x := by
  induction jobs generalizing i with
  | nil => simp at hi
  | cons j r ih =>
    cases i with
    | zero =>
      simp only [List.getElem_cons_zero] at hd
      simp only [List.set_cons_zero, List.getElem_cons_zero, needOf]
      split <;> omega
    | succ i =>
      simp only [List.getElem_cons_succ] at hd
      simp only [List.set_cons_succ, List.getElem_cons_succ, needOf]
      split
      · omega
      · exact ih i (by simpa using hi) hd
theorem rooms_node {s : StD} (h : Valid U s) (i : Nat) (hi : i < s.nodes.length) (d : Int) (h0 : s.nodes[i].room ≤ d) (hd : d ≤ 1000000) : Valid U { s with nodes := s.nodes.set i { s.nodes[i] with room := d } } := by
  obtain ⟨h1, ⟨h2, h3, h4⟩, hj, ⟨hn1, hn2⟩, ⟨h5, h6⟩, h7⟩ := h
  have e : (s.nodes.set i { s.nodes[i] with room := d }).map (·.name) = s.nodes.map (·.name) := map_set _ _ _ hi _ rfl
  have hz := (nodeE_zero U s.nodes[i]).1 (hn1 _ (List.getElem_mem _))
  refine ⟨h1, ⟨h2, h3, by simpa using h4⟩, hj, ⟨fun x hx => ?_, asc_map e.symm hn2⟩, ⟨fun l hl => ?_, h6⟩, fun x hx => ?_⟩
  · rcases List.mem_or_eq_of_mem_set hx with hx | rfl
    · exact hn1 x hx
    · exact (nodeE_zero U _).2 ⟨hz.1, by show 0 ≤ d; omega, hd⟩
  · have q := (leaseE_zero _ _ _).1 (h5 l hl)
    exact (leaseE_zero _ _ _).2 ⟨q.1, hasNode_map e.symm _ q.2.1, q.2.2⟩
  · rcases List.mem_or_eq_of_mem_set hx with hx | rfl
    · exact h7 x hx
    · exact Int.le_trans (h7 s.nodes[i] (List.getElem_mem _)) h0
theorem rooms_job {s : StD} (h : Valid U s) (i : Nat) (hi : i < s.jobs.length) (d : Int) (h0 : 0 ≤ d) (hd : d ≤ s.jobs[i].need) : Valid U { s with jobs := s.jobs.set i { s.jobs[i] with need := d } } := by
  obtain ⟨h1, ⟨h2, h3, h4⟩, ⟨hj1, hj2⟩, hn, ⟨h5, h6⟩, h7⟩ := h
  have e : (s.jobs.set i { s.jobs[i] with need := d }).map (·.name) = s.jobs.map (·.name) := map_set _ _ _ hi _ rfl
  have hz := (jobE_zero U s.jobs[i]).1 (hj1 _ (List.getElem_mem _))
  refine ⟨h1, ⟨by simpa using h2, h3, h4⟩, ⟨fun x hx => ?_, asc_map e.symm hj2⟩, hn, ⟨fun l hl => ?_, h6⟩, fun x hx => ?_⟩
  · rcases List.mem_or_eq_of_mem_set hx with hx | rfl
    · exact hj1 x hx
    · exact (jobE_zero U _).2 ⟨hz.1, hz.2.1, ⟨h0, by show d ≤ 1000000; omega⟩, hz.2.2.2⟩
  · have q := (leaseE_zero _ _ _).1 (h5 l hl)
    exact (leaseE_zero _ _ _).2 ⟨hasJob_map e.symm _ q.1, q.2⟩
  · refine Int.le_trans (sumZ_le (fun l _ => ?_)) (h7 x hx)
    unfold useOf
    split
    · exact needOf_set s.jobs i hi d hd l.job
    · exact Int.le_refl _
/-! ### Fits -/
def fitsD (s : StD) (v : Int) : Bool :=
  (decide (3 ≤ v) || decide (s.rev = 0)) && s.jobs.all (fun j => (decide (3 ≤ v) || decide (j.tag.size = 0)) && (decide (2 ≤ v) || decide (j.tries = 0))) && s.nodes.all (fun n => decide (2 ≤ v) || decide (n.zone.size = 0))
theorem fits_later {s : StD} {v v' : Int} (h : fitsD s v = true) (hv : v ≤ v') : fitsD s v' = true := by
  simp only [fitsD, Bool.and_eq_true, Bool.or_eq_true, List.all_eq_true, decide_eq_true_eq] at h ⊢
  obtain ⟨⟨h1, h2⟩, h3⟩ := h
  exact ⟨⟨by omega, fun j hj => ⟨by have := (h2 j hj).1; omega, by have := (h2 j hj).2; omega⟩⟩, fun n hn => by have := h3 n hn; omega⟩
theorem fits_three (s : StD) : fitsD s 3 = true := by simp [fitsD]
end
end Go.Proofs.YtiekgafopalfmaaGreatDoor

/- Plain facts on scheduler states (no program): one step of a loop over the rows. -/
namespace Go.Proofs.YtiekgafopalfmaaGreatDoor

theorem sumZ_take {α : Type} (f : α → Int) (l : List α) (i : Nat) (h : i < l.length) : sumZ f (l.take (i + 1)) = sumZ f (l.take i) + f l[i] := by
  rw [List.take_succ_eq_append_getElem h, sumZ_append]; simp [sumZ]
theorem sumZ_part {α : Type} {f : α → Int} {l : List α} {M : Int} (h : ∀ x ∈ l, 0 ≤ f x ∧ f x ≤ M) (i : Nat) : 0 ≤ sumZ f (l.take i) ∧ sumZ f (l.take i) ≤ M * (l.take i).length :=
  ⟨sumZ_nonneg (fun x hx => (h x (List.mem_of_mem_take hx)).1), sumZ_bound (fun x hx => (h x (List.mem_of_mem_take hx)).2)⟩
/-- The key of the row before the i-th. -/
def prevK {α : Type} (key : α → ByteArray) (l : List α) (i : Nat) : Option ByteArray := if i = 0 then none else (l[i - 1]?).map key
theorem prevK_zero {α : Type} (key : α → ByteArray) (l : List α) : prevK key l 0 = none := rfl
theorem prevK_succ {α : Type} (key : α → ByteArray) (l : List α) (i : Nat) (h : i < l.length) : prevK key l (i + 1) = some (key l[i]) := by
  simp [prevK, h]
theorem rowsE_step {α : Type} (E : α → Nat) (key : α → ByteArray) (l : List α) (i : Nat) (h : i < l.length) :
    rowsE E key (prevK key l i) (l.drop i) = if E l[i] ≠ 0 then E l[i] else if badO (prevK key l i) (key l[i]) then 8 else rowsE E key (prevK key l (i + 1)) (l.drop (i + 1)) := by
  rw [List.drop_eq_getElem_cons h, rowsE, prevK_succ key l i h]
theorem rowsE_end {α : Type} (E : α → Nat) (key : α → ByteArray) (p : Option ByteArray) (l : List α) : rowsE E key p (l.drop l.length) = 0 := by
  rw [List.drop_length, rowsE]
theorem badO_first {α : Type} (key : α → ByteArray) (l : List α) (x : ByteArray) : badO (prevK key l 0) x = false := rfl
theorem badO_later {α : Type} (key : α → ByteArray) (l : List α) (i : Nat) (h : i < l.length) (x : ByteArray) : badO (prevK key l (i + 1)) x = !decide (lt (key l[i]) x) := by
  rw [prevK_succ key l i h]; rfl
/-- Go's '<' on strings. -/
theorem less_is (a b : ByteArray) : Op.bytesLess a.data.toList b.data.toList = decide (lt a b) := by
  have : ∀ x y : List UInt8, Op.bytesLess x y = decide (x < y) := by
    intro x
    induction x with
    | nil => intro y; cases y <;> simp [Op.bytesLess]
    | cons c x ih =>
      intro y
      cases y with
      | nil => simp [Op.bytesLess]
      | cons d y =>
        rw [Op.bytesLess, ih y]
        have e : (c == d) = decide (c = d) := by by_cases h : c = d <;> simp [h]
        rw [e]
        simp [List.cons_lt_cons_iff]
  exact this _ _
theorem less_toList (a b : ByteArray) : Op.bytesLess a.toList b.toList = decide (lt a b) := by
  rw [ByteArray.toList_eq, ByteArray.toList_eq]; exact less_is a b
theorem toList_inj' {a b : ByteArray} (h : a.toList = b.toList) : a = b := by
  rw [ByteArray.toList_eq, ByteArray.toList_eq] at h
  cases a; cases b; simp only [ByteArray.mk.injEq]; exact Array.toList_inj.1 h
theorem same_lists {a b : ByteArray} : (a.toList == b.toList) = decide (a = b) := by
  by_cases h : a = b
  · subst h; simp
  · have : ¬ a.toList = b.toList := fun e => h (toList_inj' e)
    simp [h, this]
/-- What '<=' and '>=' of strings ask, where y lies below x. -/
theorem above_lists {x y : ByteArray} (h : lt y x) : Op.bytesLess x.toList y.toList = false ∧ (x.toList == y.toList) = false := by
  rw [less_toList, same_lists]
  have h1 : ¬ lt x y := fun k => lt_irrefl _ (lt_trans h k)
  have h2 : ¬ x = y := (lt_ne h).symm
  simp [h1, h2]
theorem below_lists {x y : ByteArray} (h : ¬ lt y x) : (Op.bytesLess x.toList y.toList = true ∧ (x.toList == y.toList) = false) ∨ (Op.bytesLess x.toList y.toList = false ∧ (x.toList == y.toList) = true) := by
  rw [less_toList, same_lists]
  by_cases e : x = y
  · subst e; simp [lt_irrefl]
  · rcases lt_or e with k | k
    · simp [k, e]
    · exact absurd k h
/-- The first row of a name. -/
theorem needOf_first {jobs : List JobD} {x : ByteArray} (k : Nat) (hk : k < jobs.length) (hx : jobs[k].name = x) (h : ∀ j, (hj : j < k) → jobs[j].name ≠ x) : needOf jobs x = jobs[k].need := by
  induction jobs generalizing k with
  | nil => simp at hk
  | cons j r ih =>
    cases k with
    | zero =>
      simp only [List.getElem_cons_zero] at hx
      simp [needOf, hx]
    | succ k =>
      have h0 := h 0 (by omega)
      simp only [List.getElem_cons_zero] at h0
      simp only [List.getElem_cons_succ] at hx
      simp only [needOf, if_neg h0, List.getElem_cons_succ]
      exact ih k (by simpa using hk) hx (fun j hj => by have := h (j + 1) (by omega); simpa using this)
theorem needOf_none {jobs : List JobD} {x : ByteArray} (h : hasJob jobs x = false) : needOf jobs x = 0 := by
  induction jobs with
  | nil => rfl
  | cons j r ih =>
    simp only [hasJob, List.any_cons, Bool.or_eq_false_iff, decide_eq_false_iff_not] at h
    simp only [needOf, if_neg h.1]
    exact ih h.2
theorem any_no {α : Type} {p : α → Bool} {l : List α} (h : ∀ j, (hj : j < l.length) → p l[j] = false) : l.any p = false := by
  rw [List.any_eq_false]
  intro x hx
  obtain ⟨i, hi, rfl⟩ := List.getElem_of_mem hx
  rw [h i hi]; simp
theorem any_yes {α : Type} {p : α → Bool} {l : List α} (k : Nat) (hk : k < l.length) (h : p l[k] = true) : l.any p = true := List.any_eq_true.2 ⟨_, List.getElem_mem _, h⟩
/-- What the index of a row of a name is: -1, or the first. -/
def At {α : Type} (key : α → ByteArray) (l : List α) (x : ByteArray) (r : Int) : Prop := (r = -1 ∧ ∀ j, (hj : j < l.length) → key l[j] ≠ x) ∨ ∃ k, ∃ hk : k < l.length, r = (k : Int) ∧ key l[k] = x ∧ ∀ j, (hj : j < k) → key (l[j]'(by omega)) ≠ x
theorem at_any {α : Type} (key : α → ByteArray) (l : List α) (x : ByteArray) : ∃ r, At key l x r := by
  by_cases h : ∃ k, ∃ hk : k < l.length, key l[k] = x
  · obtain ⟨n, hn⟩ : ∃ n, ∃ k, k ≤ n ∧ ∃ hk : k < l.length, key l[k] = x := by
      obtain ⟨k, hk, hx⟩ := h; exact ⟨k, k, Nat.le_refl _, hk, hx⟩
    clear h
    induction n with
    | zero =>
      obtain ⟨k, hk0, hk, hx⟩ := hn
      obtain rfl : k = 0 := by omega
      exact ⟨0, .inr ⟨0, hk, rfl, hx, fun j hj => by omega⟩⟩
    | succ n ih =>
      by_cases h2 : ∃ k, k ≤ n ∧ ∃ hk : k < l.length, key l[k] = x
      · exact ih h2
      · obtain ⟨k, hk0, hk, hx⟩ := hn
        exact ⟨k, .inr ⟨k, hk, rfl, hx, fun j hj e => h2 ⟨j, by omega, by omega, e⟩⟩⟩
  · exact ⟨-1, .inl ⟨rfl, fun j hj e => h ⟨j, hj, e⟩⟩⟩
theorem at_job {l : List JobD} {x : ByteArray} {r : Int} (h : At (·.name) l x r) : (hasJob l x = decide (0 ≤ r)) ∧ (∀ k : Nat, r = (k : Int) → ∃ hk : k < l.length, needOf l x = l[k].need) := by
  rcases h with ⟨rfl, h⟩ | ⟨k, hk, rfl, hx, hj⟩
  · refine ⟨?_, fun k e => by omega⟩
    have : hasJob l x = false := any_no (fun j hj => by simpa using h j hj)
    rw [this]; simp
  · refine ⟨?_, fun k' e => ?_⟩
    · have : hasJob l x = true := any_yes k hk (by simpa using hx)
      rw [this]; simp
    · obtain rfl : k' = k := by omega
      exact ⟨hk, needOf_first k' hk hx hj⟩
theorem at_node {l : List NodeD} {x : ByteArray} {r : Int} (h : At (·.name) l x r) : hasNode l x = decide (0 ≤ r) := by
  rcases h with ⟨rfl, h⟩ | ⟨k, hk, rfl, hx, _⟩
  · have : hasNode l x = false := any_no (fun j hj => by simpa using h j hj)
    rw [this]; simp
  · have : hasNode l x = true := any_yes k hk (by simpa using hx)
    rw [this]; simp
theorem at_lease {l : List LeaseD} {x : ByteArray} {r : Int} (h : At (·.job) l x r) : hasLease l x = decide (0 ≤ r) := by
  rcases h with ⟨rfl, h⟩ | ⟨k, hk, rfl, hx, _⟩
  · have : hasLease l x = false := any_no (fun j hj => by simpa using h j hj)
    rw [this]; simp
  · have : hasLease l x = true := any_yes k hk (by simpa using hx)
    rw [this]; simp
/-- The errors are small numbers. -/
theorem jobE_le (U : ByteArray → Bool) (j : JobD) : jobE U j ≤ 10 := by unfold jobE; split <;> (try split) <;> omega
theorem nodeE_le (U : ByteArray → Bool) (n : NodeD) : nodeE U n ≤ 10 := by unfold nodeE; split <;> (try split) <;> omega
theorem leaseE_le (jobs : List JobD) (nodes : List NodeD) (l : LeaseD) : leaseE jobs nodes l ≤ 10 := by unfold leaseE; split <;> (try split) <;> omega
theorem roomE_no {jobs : List JobD} {leases : List LeaseD} {nodes : List NodeD} (i : Nat) (hi : i < nodes.length) (h : nodes[i].room < usedD jobs leases nodes[i].name) : roomE jobs leases nodes = 9 := by
  unfold roomE
  rw [if_neg]
  intro h1
  rw [List.all_eq_true] at h1
  have := h1 nodes[i] (List.getElem_mem _)
  simp only [decide_eq_true_eq] at this
  omega
theorem roomE_yes {jobs : List JobD} {leases : List LeaseD} {nodes : List NodeD} (h : ∀ j, (hj : j < nodes.length) → usedD jobs leases nodes[j].name ≤ nodes[j].room) : roomE jobs leases nodes = 0 := by
  unfold roomE
  rw [if_pos]
  rw [List.all_eq_true]
  intro x hx
  obtain ⟨i, hi, rfl⟩ := List.getElem_of_mem hx
  simpa using h i hi
end Go.Proofs.YtiekgafopalfmaaGreatDoor

/- Maps keyed by strings that the call itself makes: block b holds at each string s the value f s (none: nothing). Elements are read as themselves. -/
namespace Go.Proofs.YtiekgafopalfmaaGreatDoor
open Go.RowKit

def selfE (v : Value) : Option (DataW Value × List MemPlace) := some (.held v, [])
def keyL (s : ByteArray) : Lit := .string s.data.toList
theorem keyL_inj {a b : ByteArray} (h : keyL a = keyL b) : a = b := by
  unfold keyL at h
  simp only [Lit.string.injEq] at h
  cases a; cases b; simp only [ByteArray.mk.injEq]; exact Array.toList_inj.1 h
theorem strKeyed : Maps.Keyed Tryz.prog 9 := Maps.string_keyed Tryz.underlying9
theorem strKey {s : ByteArray} (h : s.size ≤ maxLen) : keyOf Tryz.prog 9 (.string s) = some (keyL s) := WideMaps.keyOf_string_mk Tryz.underlying9 h
def MapAt (w : World) (b n : Nat) (f : ByteArray → Option Value) : Prop :=
  ∃ D : DataW Value, w.ownsMap Tryz.prog 9 selfE b n D ∧ ∀ s : ByteArray, Maps.has D (keyL s) = (f s).isSome ∧ ∀ z, D.atKey (keyL s) (.held z) = .held ((f s).getD z)
theorem mapAt_made (w : World) : MapAt (w.alloc (.map #[] 0)) w.heap.size 0 (fun _ => none) :=
  ⟨.map [], World.ownsMap_made w _ _ _, fun _ => ⟨rfl, fun _ => rfl⟩⟩
theorem mapAt_lt {w : World} {b n : Nat} {f : ByteArray → Option Value} (h : MapAt w b n f) : b < w.heap.size := h.elim fun _ h => h.1.lt
theorem mapAt_mono {w : World} {b n n' : Nat} {f : ByteArray → Option Value} (h : MapAt w b n f) (hn : n ≤ n') : MapAt w b n' f := h.elim fun D h => ⟨D, h.1.mono hn, h.2⟩
theorem mapAt_kept {w w' : World} {b n : Nat} {f : ByteArray → Option Value} {row : Option Nat} (h : MapAt w b n f) (hg : w.grownBy w' row) (hne : some b ≠ row) : MapAt w' b n f := h.elim fun D h => ⟨D, h.1.kept hg hne, h.2⟩
theorem mapAt_alloc {w : World} {b n : Nat} {f : ByteArray → Option Value} (h : MapAt w b n f) (o : Obj) : MapAt (w.alloc o) b n f := h.elim fun D h => ⟨D, h.1.alloc o, h.2⟩
theorem mapAt_below {w w' : World} {b n : Nat} {f : ByteArray → Option Value} (h : MapAt w b n f) (hb : Below w.heap.size w w') : MapAt w' b n f := by
  obtain ⟨D, ⟨es, clock, h1, h2⟩, h3⟩ := h
  exact ⟨D, ⟨es, clock, (hb.block b (Array.getElem?_eq_some_iff.1 h1).1).trans h1, h2⟩, h3⟩
theorem mapAt_ext {w : World} {b n : Nat} {f g : ByteArray → Option Value} (h : MapAt w b n f) (e : ∀ s, f s = g s) : MapAt w b n g := by
  obtain ⟨D, h1, h2⟩ := h
  exact ⟨D, h1, fun s => by rw [← e s]; exact h2 s⟩
theorem keyL_key (s : ByteArray) : WideAt.IsKeyLit (keyL s) := trivial
/-- f with v at the key k. -/
def putF (f : ByteArray → Option Value) (k : ByteArray) (v : Value) : ByteArray → Option Value := fun s => if k = s then some v else f s
theorem putF_at {D : DataW Value} {f : ByteArray → Option Value} (hm : Maps.IsMap D) (h : ∀ s : ByteArray, Maps.has D (keyL s) = (f s).isSome ∧ ∀ z, D.atKey (keyL s) (.held z) = .held ((f s).getD z)) (k : ByteArray) (v : Value) :
    ∀ s : ByteArray, Maps.has (D.put (keyL k) (.held v)) (keyL s) = (putF f k v s).isSome ∧ ∀ z, (D.put (keyL k) (.held v)).atKey (keyL s) (.held z) = .held ((putF f k v s).getD z) := by
  intro s
  unfold putF
  by_cases e : k = s
  · subst e
    rw [if_pos rfl]
    exact ⟨Maps.has_put_same hm (keyL_key _) _, fun z => Maps.atKey_put_same hm (keyL_key _) _ _⟩
  · rw [if_neg e]
    have e' : keyL s ≠ keyL k := fun h => e (keyL_inj h).symm
    exact ⟨(Maps.has_put_other e' _).trans (h s).1, fun z => (Maps.atKey_put_other e' _ _).trans ((h s).2 z)⟩

section
variable (w : World) {ops : Array Oper} {rest : List Oper} {o : Oper} {a : Act} {Q : Exit → Act → World → Prop}
theorem wpList_look (hg : o.guard = none) (m x : Operand) (t : TypeId) (hop : o.op = Op.lookup t m x false) (e : TypeId) (ht : Tryz.prog.underlying t = some (.map 9 e)) {z : Value} (hz : (zeroValue e).run Tryz.prog w = .ok z w)
    (b n : Nat) (f : ByteArray → Option Value) (hm : a.eval m = .map (some b)) (hown : MapAt w b n f) (s : ByteArray) (hx : a.eval x = .string s) (hs : s.size ≤ maxLen) (u : Value) (hu : (f s).getD z = u)
    (hK : wpList Tryz.prog ops Q rest (a.put o.dst u) w) : wpList Tryz.prog ops Q (o :: rest) a w := by
  refine wpList_plain hg fun K' hK' => ?_
  obtain ⟨D, h1, h2⟩ := hown
  obtain ⟨v, ps, hrun, hv⟩ := h1.lookup strKeyed ht hz (zd := .held z) (zp := []) rfl (strKey hs)
  rw [(h2 s).2 z, hu] at hv
  simp only [selfE, Option.some.injEq, Prod.mk.injEq, DataW.held.injEq] at hv
  obtain ⟨rfl, _⟩ := hv
  unfold Oper.wp
  simp [execOp, hop, hm, hx, hrun, Result.andThen]
  exact hK' _ _ hK
theorem wpList_look_ok (hg : o.guard = none) (m x : Operand) (t : TypeId) (hop : o.op = Op.lookup t m x true) (e : TypeId) (ht : Tryz.prog.underlying t = some (.map 9 e)) {z : Value} (hz : (zeroValue e).run Tryz.prog w = .ok z w)
    (b n : Nat) (f : ByteArray → Option Value) (hm : a.eval m = .map (some b)) (hown : MapAt w b n f) (s : ByteArray) (hx : a.eval x = .string s) (hs : s.size ≤ maxLen) (u : Value) (c : Bool) (hu : (f s).getD z = u) (hc : (f s).isSome = c)
    (hK : wpList Tryz.prog ops Q rest (a.put o.dst (.tuple #[u, .bool c])) w) : wpList Tryz.prog ops Q (o :: rest) a w := by
  refine wpList_plain hg fun K' hK' => ?_
  obtain ⟨D, h1, h2⟩ := hown
  obtain ⟨v, ps, hrun, hv⟩ := h1.look_ok strKeyed ht hz (zd := .held z) (zp := []) rfl (strKey hs)
  rw [(h2 s).2 z, hu] at hv
  rw [(h2 s).1, hc] at hrun
  simp only [selfE, Option.some.injEq, Prod.mk.injEq, DataW.held.injEq] at hv
  obtain ⟨rfl, _⟩ := hv
  unfold Oper.wp
  simp [execOp, hop, hm, hx, hrun, Result.andThen]
  exact hK' _ _ hK
theorem wpList_put (hg : o.guard = none) (m x v : Operand) (t : TypeId) (hop : o.op = Op.mapUpdate t m x v) (e : TypeId) (ht : Tryz.prog.underlying t = some (.map 9 e))
    (b n : Nat) (f : ByteArray → Option Value) (hm : a.eval m = .map (some b)) (hown : MapAt w b n f) (hn : n < maxLen) (s : ByteArray) (hx : a.eval x = .string s) (hs : s.size ≤ maxLen) (u : Value) (hv : a.eval v = u)
    (hK : ∀ w', MapAt w' b (n + 1) (putF f s u) → w.grownBy w' (some b) → wpList Tryz.prog ops Q rest (a.put o.dst undef) w') : wpList Tryz.prog ops Q (o :: rest) a w := by
  obtain ⟨D, h1, h2⟩ := hown
  exact wpList_mapUpdate_own w hg m x v t hop 9 e strKeyed ht selfE b n D hm h1 hn (.string s) u (keyL s) hx hv (strKey hs) (.held u) [] rfl
    (fun w' h3 h4 => hK w' ⟨_, h3, putF_at h1.isMap h2 s u⟩ h4)
end
end Go.Proofs.YtiekgafopalfmaaGreatDoor

/- The tables that hold the rows of a state by their names, as plain facts. -/
namespace Go.Proofs.YtiekgafopalfmaaGreatDoor

/-- The last row of a name. -/
def lastD {α : Type} (key : α → ByteArray) (l : List α) (s : ByteArray) : Option α := l.reverse.find? fun x => decide (key x = s)
/-- What a table of the rows l holds. -/
def tabF {α : Type} (key : α → ByteArray) (V : α → Value) (l : List α) : ByteArray → Option Value := fun s => (lastD key l s).map V
theorem tabF_nil {α : Type} (key : α → ByteArray) (V : α → Value) (s : ByteArray) : tabF key V [] s = none := rfl
theorem tabF_step {α : Type} (key : α → ByteArray) (V : α → Value) (l : List α) (i : Nat) (h : i < l.length) (s : ByteArray) : putF (tabF key V (l.take i)) (key l[i]) (V l[i]) s = tabF key V (l.take (i + 1)) s := by
  unfold putF tabF lastD
  rw [List.take_succ_eq_append_getElem h, List.reverse_append, List.reverse_singleton, List.singleton_append, List.find?_cons]
  by_cases e : key l[i] = s
  · rw [if_pos e]; simp [e]
  · rw [if_neg e]; simp [e]
theorem lastD_mem {α : Type} {key : α → ByteArray} {l : List α} {s : ByteArray} {x : α} (h : lastD key l s = some x) : x ∈ l ∧ key x = s := by
  have h1 := List.mem_of_find?_eq_some h
  have h2 := List.find?_some h
  exact ⟨List.mem_reverse.1 h1, by simpa using h2⟩
theorem lastD_isSome {α : Type} (key : α → ByteArray) (l : List α) (s : ByteArray) : (lastD key l s).isSome = l.any fun x => decide (key x = s) := by
  unfold lastD
  rw [Bool.eq_iff_iff, List.find?_isSome, List.any_eq_true]
  constructor
  · rintro ⟨x, h1, h2⟩; exact ⟨x, List.mem_reverse.1 h1, h2⟩
  · rintro ⟨x, h1, h2⟩; exact ⟨x, List.mem_reverse.2 h1, h2⟩
theorem tabF_job (V : JobD → Value) (l : List JobD) (s : ByteArray) : (tabF (·.name) V l s).isSome = hasJob l s := by
  unfold tabF hasJob; rw [Option.isSome_map]; exact lastD_isSome _ _ _
theorem tabF_node (V : NodeD → Value) (l : List NodeD) (s : ByteArray) : (tabF (·.name) V l s).isSome = hasNode l s := by
  unfold tabF hasNode; rw [Option.isSome_map]; exact lastD_isSome _ _ _
def zeroJ : JobD := ⟨⟨#[]⟩, 0, 0, 0, ⟨#[]⟩⟩
def zeroN : NodeD := ⟨⟨#[]⟩, 0, ⟨#[]⟩⟩
def pickJ (l : List JobD) (s : ByteArray) : JobD := (lastD (·.name) l s).getD zeroJ
def pickN (l : List NodeD) (s : ByteArray) : NodeD := (lastD (·.name) l s).getD zeroN
theorem tabF_pickJ (V : JobD → Value) (l : List JobD) (s : ByteArray) : (tabF (·.name) V l s).getD (V zeroJ) = V (pickJ l s) := by
  unfold tabF pickJ
  cases lastD (·.name) l s <;> rfl
theorem tabF_pickN (V : NodeD → Value) (l : List NodeD) (s : ByteArray) : (tabF (·.name) V l s).getD (V zeroN) = V (pickN l s) := by
  unfold tabF pickN
  cases lastD (·.name) l s <;> rfl
theorem pickJ_need {l : List JobD} (h : Asc (·.name) l) (s : ByteArray) : (pickJ l s).need = needOf l s := by
  unfold pickJ
  cases e : lastD (·.name) l s with
  | none =>
    have : (lastD (·.name) l s).isSome = false := by rw [e]; rfl
    rw [lastD_isSome] at this
    rw [needOf_none this]; rfl
  | some j =>
    obtain ⟨h1, h2⟩ := lastD_mem e
    have := needOf_mem h h1
    rw [h2] at this
    exact this.symm
/-- The sums: at each node what is used of it. -/
def sumF (jobs : List JobD) (l : List LeaseD) : ByteArray → Option Value := fun s => if l.any (fun x => decide (x.node = s)) then some (.int .i64 (usedD jobs l s)) else none
theorem used_none {jobs : List JobD} {l : List LeaseD} {s : ByteArray} (h : l.any (fun x => decide (x.node = s)) = false) : usedD jobs l s = 0 := by
  unfold usedD
  rw [sumZ_congr (g := fun _ => 0), sumZ_zero]
  intro x hx
  rw [List.any_eq_false] at h
  have := h x hx
  simp only [decide_eq_true_eq] at this
  exact if_neg this
theorem sumF_nil (jobs : List JobD) (s : ByteArray) : sumF jobs [] s = none := rfl
theorem sumF_get (jobs : List JobD) (l : List LeaseD) (s : ByteArray) : (sumF jobs l s).getD (.int .i64 0) = .int .i64 (usedD jobs l s) := by
  unfold sumF
  by_cases h : l.any (fun x => decide (x.node = s)) = true
  · rw [if_pos h]; rfl
  · rw [if_neg h, used_none (by simpa using h)]; rfl
theorem used_step (jobs : List JobD) (l : List LeaseD) (i : Nat) (h : i < l.length) (s : ByteArray) : usedD jobs (l.take (i + 1)) s = usedD jobs (l.take i) s + if l[i].node = s then needOf jobs l[i].job else 0 := by
  unfold usedD
  rw [sumZ_take _ _ _ h]; rfl
theorem sumF_step (jobs : List JobD) (l : List LeaseD) (i : Nat) (h : i < l.length) (s : ByteArray) : putF (sumF jobs (l.take i)) l[i].node (.int .i64 (usedD jobs (l.take i) l[i].node + needOf jobs l[i].job)) s = sumF jobs (l.take (i + 1)) s := by
  have e2 : (l.take (i + 1)).any (fun x => decide (x.node = s)) = ((l.take i).any (fun x => decide (x.node = s)) || decide (l[i].node = s)) := by
    rw [List.take_succ_eq_append_getElem h, List.any_append]; simp
  unfold putF sumF
  rw [e2, used_step jobs l i h s]
  by_cases e : l[i].node = s
  · subst e; simp
  · rw [if_neg e]; simp [e]
theorem used_take_bd (U : ByteArray → Bool) {jobs : List JobD} (h : ∀ j ∈ jobs, jobE U j = 0) (node : ByteArray) (l : List LeaseD) (hl : l.length ≤ 40) (i : Nat) : 0 ≤ usedD jobs (l.take i) node ∧ usedD jobs (l.take i) node ≤ 40000000 := by
  have h1 := used_bd U h node (l.take i)
  have h2 : (l.take i).length ≤ 40 := Nat.le_trans (by rw [List.length_take]; omega) hl
  omega
end Go.Proofs.YtiekgafopalfmaaGreatDoor

/- Addresses. -/
namespace Go.Proofs.YtiekgafopalfmaaGreatDoor
theorem add_block (a : Addr) (k : Nat) : (a.add k).block = a.block := by unfold Addr.add; split <;> rfl
theorem add_next (a : Addr) (k j : Nat) : a.add (k + (j + 1)) = ⟨(a.add k).block, (a.add k).off + (j + 1), none⟩ := by
  unfold Addr.add
  split <;> split <;> first | omega | (simp; omega) | simp
theorem addr_add (g j : Nat) : (⟨g, 0, none⟩ : Addr).add j = ⟨g, j, none⟩ := by simp [Addr.add]; intro h0; exact h0.symm
end Go.Proofs.YtiekgafopalfmaaGreatDoor

/- A state among the arguments: opened as plain data. -/
namespace Go.Proofs.YtiekgafopalfmaaGreatDoor
open Go.ChangeShapes Go.WideShapes Go.RowKit Go.Joins Go.Deep

/-- api.Job as cells, as data; in memory. -/
def cJob (x : JobD) : List Value := [.string x.name, .int .i64 x.prio, .int .i64 x.need, .int .i64 x.tries, .string x.tag]
def dJob {H : Type} (x : JobD) : DataW H := .agg [.lit (.string x.name.data.toList), .lit (.int .i64 x.prio), .lit (.int .i64 x.need), .lit (.int .i64 x.tries), .lit (.string x.tag.data.toList)]
def wJob (x : JobD) : Prop := x.name.size ≤ maxLen ∧ (Lit.int .i64 x.prio).wf = true ∧ (Lit.int .i64 x.need).wf = true ∧ (Lit.int .i64 x.tries).wf = true ∧ x.tag.size ≤ maxLen
def JobsAt (w : World) (ad : Option Addr) (xs : List JobD) : Prop := ∀ i (h : i < xs.length), ∃ a, ad = some a ∧ a.block < w.heap.size ∧ w.cell? (a.add (i * 5)) = some (.string xs[i].name) ∧ w.cell? ⟨(a.add (i * 5)).block, (a.add (i * 5)).off + 1, none⟩ = some (.int .i64 xs[i].prio) ∧ w.cell? ⟨(a.add (i * 5)).block, (a.add (i * 5)).off + 2, none⟩ = some (.int .i64 xs[i].need) ∧ w.cell? ⟨(a.add (i * 5)).block, (a.add (i * 5)).off + 3, none⟩ = some (.int .i64 xs[i].tries) ∧ w.cell? ⟨(a.add (i * 5)).block, (a.add (i * 5)).off + 4, none⟩ = some (.string xs[i].tag)
set_option maxRecDepth 100000 in
theorem openJobs {H : Type} {enc : TypeId × Value → H} {w : World} {base : Nat} {spare : Nat → Bool} {held : Bool} {fuel : Nat} {v : Value} {y : DataW H × List MemPlace} (hf : DataW.trod enc Tryz.prog w base spare held fuel 22 [v] = some y) :
    ∃ (ad : Option Addr) (cap : Nat) (xs : List JobD), v = .slice ad xs.length cap ∧ JobsAt w ad xs ∧ ((y.1 = .nil ∧ xs = []) ∨ ∃ more, y.1 = .slice (xs.map dJob) more) ∧ ∀ x ∈ xs, wJob x := by
  rcases open_slice Tryz.underlying22 hf with ⟨hcs, hx⟩ | ⟨a, len, cap, m, n, D, Pl, hcs, _, hl, _, hm, hx, hi⟩
  · simp only [List.cons.injEq, and_true] at hcs
    subst hcs hx
    exact ⟨none, 0, [], rfl, fun i hi => by simp at hi, .inl ⟨rfl, rfl⟩, fun x hx => by cases hx⟩
  · simp only [List.cons.injEq, and_true] at hcs
    subst hcs hx
    have hlm : len ≤ m := by rw [hm]; split <;> omega
    have hC : Tryz.prog.cellsOf 38 = 5 := by kernel_rfl
    rw [hC] at hi
    have each : ∀ i, ∃ x : JobD, i < len → D i = dJob x ∧ wJob x ∧ w.cell? (a.add (i * 5)) = some (.string x.name) ∧ w.cell? ⟨(a.add (i * 5)).block, (a.add (i * 5)).off + 1, none⟩ = some (.int .i64 x.prio) ∧ w.cell? ⟨(a.add (i * 5)).block, (a.add (i * 5)).off + 2, none⟩ = some (.int .i64 x.need) ∧ w.cell? ⟨(a.add (i * 5)).block, (a.add (i * 5)).off + 3, none⟩ = some (.int .i64 x.tries) ∧ w.cell? ⟨(a.add (i * 5)).block, (a.add (i * 5)).off + 4, none⟩ = some (.string x.tag) := by
      intro i
      by_cases hil : i < len
      · obtain ⟨cs', hc, ht⟩ := hi i (by omega)
        obtain ⟨_, hcl, hat⟩ := World.cells?_some hc
        obtain ⟨ys, n', _, hy, hlen, hyl, hg⟩ := DataW.trod_struct Tryz.underlying38 ht
        simp only [Prod.mk.injEq] at hy
        match cs', hcl with
        | [c0, c1, c2, c3, c4], _ =>
          match ys, hyl with
          | [y0, y1, y2, y3, y4], _ =>
            have t0 := hg 0 _ rfl
            have t1 := hg 1 _ rfl
            have t2 := hg 2 _ rfl
            have t3 := hg 3 _ rfl
            have t4 := hg 4 _ rfl
            simp at t0 t1 t2 t3 t4
            rw [show Tryz.prog.cellsOf 9 = 1 from by kernel_rfl] at t0
            rw [show Tryz.prog.cellsOf 3 = 1 from by kernel_rfl] at t1
            rw [show Tryz.prog.cellsOf 3 = 1 from by kernel_rfl] at t2
            rw [show Tryz.prog.cellsOf 3 = 1 from by kernel_rfl] at t3
            rw [show Tryz.prog.cellsOf 9 = 1 from by kernel_rfl] at t4
            simp only [List.take_succ_cons, List.take_zero] at t0 t1 t2 t3 t4
            obtain ⟨p0, e0, rfl, u0⟩ := DataW.trod_string Tryz.underlying9 t0
            obtain ⟨p1, e1, rfl, u1⟩ := DataW.trod_int Tryz.underlying3 t1
            obtain ⟨p2, e2, rfl, u2⟩ := DataW.trod_int Tryz.underlying3 t2
            obtain ⟨p3, e3, rfl, u3⟩ := DataW.trod_int Tryz.underlying3 t3
            obtain ⟨p4, e4, rfl, u4⟩ := DataW.trod_string Tryz.underlying9 t4
            simp only [List.cons.injEq, and_true] at e0 e1 e2 e3 e4
            subst e0 e1 e2 e3 e4
            have g0 := hat 0 (by omega)
            have g1 := hat 1 (by omega)
            have g2 := hat 2 (by omega)
            have g3 := hat 3 (by omega)
            have g4 := hat 4 (by omega)
            rw [add_add] at g0 g1 g2 g3 g4
            rw [add_next a (i * 5) 0] at g1
            rw [add_next a (i * 5) 1] at g2
            rw [add_next a (i * 5) 2] at g3
            rw [add_next a (i * 5) 3] at g4
            exact ⟨⟨p0, p1, p2, p3, p4⟩, fun _ => ⟨hy.1, ⟨u0, u1, u2, u3, u4⟩, by simpa using g0, by simpa using g1, by simpa using g2, by simpa using g3, by simpa using g4⟩⟩
      · exact ⟨⟨⟨#[]⟩, 0, 0, 0, ⟨#[]⟩⟩, fun h => absurd h hil⟩
    obtain ⟨f, hf⟩ := Classical.axiomOfChoice each
    refine ⟨some a, cap, (List.range len).map f, by simp, ?_, .inr ⟨_, by simp only; congr 1; rw [List.map_map]; exact List.map_congr_left (fun i hi => (hf i (by simpa using hi)).1)⟩, ?_⟩
    · intro i hi
      have hi' : i < len := by simpa using hi
      obtain ⟨_, _, h0, h1, h2, h3, h4⟩ := hf i hi'
      exact ⟨a, rfl, by have := World.block_lt_of_cell? _ _ h0; rwa [add_block] at this, by simpa using h0, by simpa using h1, by simpa using h2, by simpa using h3, by simpa using h4⟩
    · intro x hx
      obtain ⟨i, hi, rfl⟩ := List.mem_map.1 hx
      exact (hf i (by simpa using hi)).2.1
theorem jobsAt_next {w w' : World} {ad : Option Addr} {xs : List JobD} (h : JobsAt w ad xs) (hb : Below w.heap.size w w') : JobsAt w' ad xs := by
  intro i hi
  obtain ⟨a, ha, hl, h0, h1, h2, h3, h4⟩ := h i hi
  exact ⟨a, ha, Nat.lt_of_lt_of_le hl hb.size, by rw [hb.cell (by simp only [add_block]; exact hl)]; exact h0, by rw [hb.cell (by simp only [add_block]; exact hl)]; exact h1, by rw [hb.cell (by simp only [add_block]; exact hl)]; exact h2, by rw [hb.cell (by simp only [add_block]; exact hl)]; exact h3, by rw [hb.cell (by simp only [add_block]; exact hl)]; exact h4⟩
set_option maxRecDepth 100000 in
theorem weightsJob {H : Type} (xs : List JobD) : ∀ x ∈ xs, ∀ z ∈ [x.name.size, x.tag.size], z ∈ DataW.weightsAll Tryz.prog 38 (H := H) (xs.map dJob) := by
  induction xs with
  | nil => intro x hx; cases hx
  | cons y xs ih =>
    intro x hx z hz
    rw [List.map_cons, DataW.weightsAll, List.mem_append]
    rcases List.mem_cons.1 hx with rfl | h
    · left
      simpa [dJob, DataW.weights, DataW.weightsEach, Tryz.underlying38] using hz
    · exact .inr (ih x h z hz)
set_option maxRecDepth 100000 in
theorem sizedJobs {H : Type} {d : DataW H} {xs : List JobD} (h : ∀ z ∈ d.weights Tryz.prog 22, z ≤ reachBytes) (hx : (d = .nil ∧ xs = []) ∨ ∃ more, d = .slice (xs.map dJob) more) : xs.length * 56 ≤ reachBytes ∧ ∀ x ∈ xs, x.name.size ≤ reachBytes ∧ x.tag.size ≤ reachBytes := by
  rcases hx with ⟨rfl, rfl⟩ | ⟨more, rfl⟩
  · exact ⟨by simp, fun x hx => by cases hx⟩
  · have hb : Tryz.prog.bytesOf 38 = 56 := by kernel_rfl
    simp only [DataW.weights, Tryz.underlying22, List.mem_cons, List.mem_append, hb] at h
    refine ⟨?_, fun x hx => ?_⟩
    · have := h _ (.inl rfl)
      rw [List.length_map] at this
      omega
    · have hw := weightsJob (H := H) xs x hx
      exact ⟨h _ (.inr (.inl (hw _ (by simp)))), h _ (.inr (.inl (hw _ (by simp))))⟩
/-- Rows that the call owns lie so, too. -/
def cJobs (xs : List JobD) : List Value := xs.flatMap cJob
theorem cJobs_append (a b : List JobD) : cJobs (a ++ b) = cJobs a ++ cJobs b := by simp [cJobs]
theorem cJobs_one (a : JobD) : cJobs [a] = cJob a := by simp [cJobs]
theorem cJobs_length (a : List JobD) : (cJobs a).length = a.length * 5 := by
  induction a with
  | nil => rfl
  | cons f a ih => rw [show f :: a = [f] ++ a from rfl, cJobs_append, List.length_append, ih, cJobs_one, List.length_append]; simp [cJob]; omega
theorem cJobs_ones (a : List JobD) : ∀ u : Value, u ∈ cJobs a → u.oneCell' = true := by
  intro u hu
  simp only [cJobs, List.mem_flatMap] at hu
  obtain ⟨f, _, hf⟩ := hu
  simp only [cJob, List.mem_cons, List.not_mem_nil, or_false] at hf
  rcases hf with rfl | rfl | rfl | rfl | rfl <;> rfl
theorem cJobs_at (a : List JobD) (i : Nat) (h : i < a.length) (j : Nat) (hj : j < 5) : (cJobs a)[i * 5 + j]? = (cJob a[i])[j]? := by
  induction a generalizing i with
  | nil => simp at h
  | cons f a ih =>
    rw [show cJobs (f :: a) = cJob f ++ cJobs a from by simp [cJobs]]
    cases i with
    | zero => rw [Nat.zero_mul, Nat.zero_add, List.getElem?_append_left (by simp [cJob]; omega)]; rfl
    | succ i =>
      rw [List.getElem?_append_right (by simp [cJob]; omega), show (i + 1) * 5 + j - (cJob f).length = i * 5 + j from by simp [cJob]; omega, ih i (by simpa using h)]; rfl
theorem ownJobs {w : World} {B n : Nat} {ad : Option Addr} {cap : Nat} {xs : List JobD} (h : w.ownsRow B 38 5 (.slice ad n cap) n (cJobs xs)) (hn : n = xs.length) : JobsAt w ad xs := by
  subst hn
  intro i hi
  rcases h.2 with ⟨_, h0⟩ | ⟨g, cap', cur, hv, _⟩
  · omega
  · simp only [Value.slice.injEq] at hv
    obtain ⟨rfl, _⟩ := hv
    have hc := h.cells (g := g) rfl
    have hl := (h.lt g rfl).2
    have z : ∀ j, j < 5 → w.cell? ⟨g, i * 5 + j, none⟩ = (cJob xs[i])[j]? := by
      intro j hj
      have e := cJobs_at xs i hi j hj
      have hjl : j < (cJob xs[i]).length := hj
      rw [List.getElem?_eq_getElem hjl] at e ⊢
      have := hc _ _ e
      rwa [addr_add] at this
    refine ⟨⟨g, 0, none⟩, rfl, hl, ?_, ?_, ?_, ?_, ?_⟩
    all_goals simp only [addr_add]
    · exact z 0 (by omega)
    · exact z 1 (by omega)
    · exact z 2 (by omega)
    · exact z 3 (by omega)
    · exact z 4 (by omega)
/-- api.Node as cells, as data; in memory. -/
def cNode (x : NodeD) : List Value := [.string x.name, .int .i64 x.room, .string x.zone]
def dNode {H : Type} (x : NodeD) : DataW H := .agg [.lit (.string x.name.data.toList), .lit (.int .i64 x.room), .lit (.string x.zone.data.toList)]
def wNode (x : NodeD) : Prop := x.name.size ≤ maxLen ∧ (Lit.int .i64 x.room).wf = true ∧ x.zone.size ≤ maxLen
def NodesAt (w : World) (ad : Option Addr) (xs : List NodeD) : Prop := ∀ i (h : i < xs.length), ∃ a, ad = some a ∧ a.block < w.heap.size ∧ w.cell? (a.add (i * 3)) = some (.string xs[i].name) ∧ w.cell? ⟨(a.add (i * 3)).block, (a.add (i * 3)).off + 1, none⟩ = some (.int .i64 xs[i].room) ∧ w.cell? ⟨(a.add (i * 3)).block, (a.add (i * 3)).off + 2, none⟩ = some (.string xs[i].zone)
set_option maxRecDepth 100000 in
theorem openNodes {H : Type} {enc : TypeId × Value → H} {w : World} {base : Nat} {spare : Nat → Bool} {held : Bool} {fuel : Nat} {v : Value} {y : DataW H × List MemPlace} (hf : DataW.trod enc Tryz.prog w base spare held fuel 23 [v] = some y) :
    ∃ (ad : Option Addr) (cap : Nat) (xs : List NodeD), v = .slice ad xs.length cap ∧ NodesAt w ad xs ∧ ((y.1 = .nil ∧ xs = []) ∨ ∃ more, y.1 = .slice (xs.map dNode) more) ∧ ∀ x ∈ xs, wNode x := by
  rcases open_slice Tryz.underlying23 hf with ⟨hcs, hx⟩ | ⟨a, len, cap, m, n, D, Pl, hcs, _, hl, _, hm, hx, hi⟩
  · simp only [List.cons.injEq, and_true] at hcs
    subst hcs hx
    exact ⟨none, 0, [], rfl, fun i hi => by simp at hi, .inl ⟨rfl, rfl⟩, fun x hx => by cases hx⟩
  · simp only [List.cons.injEq, and_true] at hcs
    subst hcs hx
    have hlm : len ≤ m := by rw [hm]; split <;> omega
    have hC : Tryz.prog.cellsOf 40 = 3 := by kernel_rfl
    rw [hC] at hi
    have each : ∀ i, ∃ x : NodeD, i < len → D i = dNode x ∧ wNode x ∧ w.cell? (a.add (i * 3)) = some (.string x.name) ∧ w.cell? ⟨(a.add (i * 3)).block, (a.add (i * 3)).off + 1, none⟩ = some (.int .i64 x.room) ∧ w.cell? ⟨(a.add (i * 3)).block, (a.add (i * 3)).off + 2, none⟩ = some (.string x.zone) := by
      intro i
      by_cases hil : i < len
      · obtain ⟨cs', hc, ht⟩ := hi i (by omega)
        obtain ⟨_, hcl, hat⟩ := World.cells?_some hc
        obtain ⟨ys, n', _, hy, hlen, hyl, hg⟩ := DataW.trod_struct Tryz.underlying40 ht
        simp only [Prod.mk.injEq] at hy
        match cs', hcl with
        | [c0, c1, c2], _ =>
          match ys, hyl with
          | [y0, y1, y2], _ =>
            have t0 := hg 0 _ rfl
            have t1 := hg 1 _ rfl
            have t2 := hg 2 _ rfl
            simp at t0 t1 t2
            rw [show Tryz.prog.cellsOf 9 = 1 from by kernel_rfl] at t0
            rw [show Tryz.prog.cellsOf 3 = 1 from by kernel_rfl] at t1
            rw [show Tryz.prog.cellsOf 9 = 1 from by kernel_rfl] at t2
            simp only [List.take_succ_cons, List.take_zero] at t0 t1 t2
            obtain ⟨p0, e0, rfl, u0⟩ := DataW.trod_string Tryz.underlying9 t0
            obtain ⟨p1, e1, rfl, u1⟩ := DataW.trod_int Tryz.underlying3 t1
            obtain ⟨p2, e2, rfl, u2⟩ := DataW.trod_string Tryz.underlying9 t2
            simp only [List.cons.injEq, and_true] at e0 e1 e2
            subst e0 e1 e2
            have g0 := hat 0 (by omega)
            have g1 := hat 1 (by omega)
            have g2 := hat 2 (by omega)
            rw [add_add] at g0 g1 g2
            rw [add_next a (i * 3) 0] at g1
            rw [add_next a (i * 3) 1] at g2
            exact ⟨⟨p0, p1, p2⟩, fun _ => ⟨hy.1, ⟨u0, u1, u2⟩, by simpa using g0, by simpa using g1, by simpa using g2⟩⟩
      · exact ⟨⟨⟨#[]⟩, 0, ⟨#[]⟩⟩, fun h => absurd h hil⟩
    obtain ⟨f, hf⟩ := Classical.axiomOfChoice each
    refine ⟨some a, cap, (List.range len).map f, by simp, ?_, .inr ⟨_, by simp only; congr 1; rw [List.map_map]; exact List.map_congr_left (fun i hi => (hf i (by simpa using hi)).1)⟩, ?_⟩
    · intro i hi
      have hi' : i < len := by simpa using hi
      obtain ⟨_, _, h0, h1, h2⟩ := hf i hi'
      exact ⟨a, rfl, by have := World.block_lt_of_cell? _ _ h0; rwa [add_block] at this, by simpa using h0, by simpa using h1, by simpa using h2⟩
    · intro x hx
      obtain ⟨i, hi, rfl⟩ := List.mem_map.1 hx
      exact (hf i (by simpa using hi)).2.1
theorem nodesAt_next {w w' : World} {ad : Option Addr} {xs : List NodeD} (h : NodesAt w ad xs) (hb : Below w.heap.size w w') : NodesAt w' ad xs := by
  intro i hi
  obtain ⟨a, ha, hl, h0, h1, h2⟩ := h i hi
  exact ⟨a, ha, Nat.lt_of_lt_of_le hl hb.size, by rw [hb.cell (by simp only [add_block]; exact hl)]; exact h0, by rw [hb.cell (by simp only [add_block]; exact hl)]; exact h1, by rw [hb.cell (by simp only [add_block]; exact hl)]; exact h2⟩
set_option maxRecDepth 100000 in
theorem weightsNode {H : Type} (xs : List NodeD) : ∀ x ∈ xs, ∀ z ∈ [x.name.size, x.zone.size], z ∈ DataW.weightsAll Tryz.prog 40 (H := H) (xs.map dNode) := by
  induction xs with
  | nil => intro x hx; cases hx
  | cons y xs ih =>
    intro x hx z hz
    rw [List.map_cons, DataW.weightsAll, List.mem_append]
    rcases List.mem_cons.1 hx with rfl | h
    · left
      simpa [dNode, DataW.weights, DataW.weightsEach, Tryz.underlying40] using hz
    · exact .inr (ih x h z hz)
set_option maxRecDepth 100000 in
theorem sizedNodes {H : Type} {d : DataW H} {xs : List NodeD} (h : ∀ z ∈ d.weights Tryz.prog 23, z ≤ reachBytes) (hx : (d = .nil ∧ xs = []) ∨ ∃ more, d = .slice (xs.map dNode) more) : xs.length * 40 ≤ reachBytes ∧ ∀ x ∈ xs, x.name.size ≤ reachBytes ∧ x.zone.size ≤ reachBytes := by
  rcases hx with ⟨rfl, rfl⟩ | ⟨more, rfl⟩
  · exact ⟨by simp, fun x hx => by cases hx⟩
  · have hb : Tryz.prog.bytesOf 40 = 40 := by kernel_rfl
    simp only [DataW.weights, Tryz.underlying23, List.mem_cons, List.mem_append, hb] at h
    refine ⟨?_, fun x hx => ?_⟩
    · have := h _ (.inl rfl)
      rw [List.length_map] at this
      omega
    · have hw := weightsNode (H := H) xs x hx
      exact ⟨h _ (.inr (.inl (hw _ (by simp)))), h _ (.inr (.inl (hw _ (by simp))))⟩
/-- Rows that the call owns lie so, too. -/
def cNodes (xs : List NodeD) : List Value := xs.flatMap cNode
theorem cNodes_append (a b : List NodeD) : cNodes (a ++ b) = cNodes a ++ cNodes b := by simp [cNodes]
theorem cNodes_one (a : NodeD) : cNodes [a] = cNode a := by simp [cNodes]
theorem cNodes_length (a : List NodeD) : (cNodes a).length = a.length * 3 := by
  induction a with
  | nil => rfl
  | cons f a ih => rw [show f :: a = [f] ++ a from rfl, cNodes_append, List.length_append, ih, cNodes_one, List.length_append]; simp [cNode]; omega
theorem cNodes_ones (a : List NodeD) : ∀ u : Value, u ∈ cNodes a → u.oneCell' = true := by
  intro u hu
  simp only [cNodes, List.mem_flatMap] at hu
  obtain ⟨f, _, hf⟩ := hu
  simp only [cNode, List.mem_cons, List.not_mem_nil, or_false] at hf
  rcases hf with rfl | rfl | rfl <;> rfl
theorem cNodes_at (a : List NodeD) (i : Nat) (h : i < a.length) (j : Nat) (hj : j < 3) : (cNodes a)[i * 3 + j]? = (cNode a[i])[j]? := by
  induction a generalizing i with
  | nil => simp at h
  | cons f a ih =>
    rw [show cNodes (f :: a) = cNode f ++ cNodes a from by simp [cNodes]]
    cases i with
    | zero => rw [Nat.zero_mul, Nat.zero_add, List.getElem?_append_left (by simp [cNode]; omega)]; rfl
    | succ i =>
      rw [List.getElem?_append_right (by simp [cNode]; omega), show (i + 1) * 3 + j - (cNode f).length = i * 3 + j from by simp [cNode]; omega, ih i (by simpa using h)]; rfl
theorem ownNodes {w : World} {B n : Nat} {ad : Option Addr} {cap : Nat} {xs : List NodeD} (h : w.ownsRow B 40 3 (.slice ad n cap) n (cNodes xs)) (hn : n = xs.length) : NodesAt w ad xs := by
  subst hn
  intro i hi
  rcases h.2 with ⟨_, h0⟩ | ⟨g, cap', cur, hv, _⟩
  · omega
  · simp only [Value.slice.injEq] at hv
    obtain ⟨rfl, _⟩ := hv
    have hc := h.cells (g := g) rfl
    have hl := (h.lt g rfl).2
    have z : ∀ j, j < 3 → w.cell? ⟨g, i * 3 + j, none⟩ = (cNode xs[i])[j]? := by
      intro j hj
      have e := cNodes_at xs i hi j hj
      have hjl : j < (cNode xs[i]).length := hj
      rw [List.getElem?_eq_getElem hjl] at e ⊢
      have := hc _ _ e
      rwa [addr_add] at this
    refine ⟨⟨g, 0, none⟩, rfl, hl, ?_, ?_, ?_⟩
    all_goals simp only [addr_add]
    · exact z 0 (by omega)
    · exact z 1 (by omega)
    · exact z 2 (by omega)
/-- api.Lease as cells, as data; in memory. -/
def cLease (x : LeaseD) : List Value := [.string x.job, .string x.node, .int .i64 x.til]
def dLease {H : Type} (x : LeaseD) : DataW H := .agg [.lit (.string x.job.data.toList), .lit (.string x.node.data.toList), .lit (.int .i64 x.til)]
def wLease (x : LeaseD) : Prop := x.job.size ≤ maxLen ∧ x.node.size ≤ maxLen ∧ (Lit.int .i64 x.til).wf = true
def LeasesAt (w : World) (ad : Option Addr) (xs : List LeaseD) : Prop := ∀ i (h : i < xs.length), ∃ a, ad = some a ∧ a.block < w.heap.size ∧ w.cell? (a.add (i * 3)) = some (.string xs[i].job) ∧ w.cell? ⟨(a.add (i * 3)).block, (a.add (i * 3)).off + 1, none⟩ = some (.string xs[i].node) ∧ w.cell? ⟨(a.add (i * 3)).block, (a.add (i * 3)).off + 2, none⟩ = some (.int .i64 xs[i].til)
set_option maxRecDepth 100000 in
theorem openLeases {H : Type} {enc : TypeId × Value → H} {w : World} {base : Nat} {spare : Nat → Bool} {held : Bool} {fuel : Nat} {v : Value} {y : DataW H × List MemPlace} (hf : DataW.trod enc Tryz.prog w base spare held fuel 24 [v] = some y) :
    ∃ (ad : Option Addr) (cap : Nat) (xs : List LeaseD), v = .slice ad xs.length cap ∧ LeasesAt w ad xs ∧ ((y.1 = .nil ∧ xs = []) ∨ ∃ more, y.1 = .slice (xs.map dLease) more) ∧ ∀ x ∈ xs, wLease x := by
  rcases open_slice Tryz.underlying24 hf with ⟨hcs, hx⟩ | ⟨a, len, cap, m, n, D, Pl, hcs, _, hl, _, hm, hx, hi⟩
  · simp only [List.cons.injEq, and_true] at hcs
    subst hcs hx
    exact ⟨none, 0, [], rfl, fun i hi => by simp at hi, .inl ⟨rfl, rfl⟩, fun x hx => by cases hx⟩
  · simp only [List.cons.injEq, and_true] at hcs
    subst hcs hx
    have hlm : len ≤ m := by rw [hm]; split <;> omega
    have hC : Tryz.prog.cellsOf 42 = 3 := by kernel_rfl
    rw [hC] at hi
    have each : ∀ i, ∃ x : LeaseD, i < len → D i = dLease x ∧ wLease x ∧ w.cell? (a.add (i * 3)) = some (.string x.job) ∧ w.cell? ⟨(a.add (i * 3)).block, (a.add (i * 3)).off + 1, none⟩ = some (.string x.node) ∧ w.cell? ⟨(a.add (i * 3)).block, (a.add (i * 3)).off + 2, none⟩ = some (.int .i64 x.til) := by
      intro i
      by_cases hil : i < len
      · obtain ⟨cs', hc, ht⟩ := hi i (by omega)
        obtain ⟨_, hcl, hat⟩ := World.cells?_some hc
        obtain ⟨ys, n', _, hy, hlen, hyl, hg⟩ := DataW.trod_struct Tryz.underlying42 ht
        simp only [Prod.mk.injEq] at hy
        match cs', hcl with
        | [c0, c1, c2], _ =>
          match ys, hyl with
          | [y0, y1, y2], _ =>
            have t0 := hg 0 _ rfl
            have t1 := hg 1 _ rfl
            have t2 := hg 2 _ rfl
            simp at t0 t1 t2
            rw [show Tryz.prog.cellsOf 9 = 1 from by kernel_rfl] at t0
            rw [show Tryz.prog.cellsOf 9 = 1 from by kernel_rfl] at t1
            rw [show Tryz.prog.cellsOf 3 = 1 from by kernel_rfl] at t2
            simp only [List.take_succ_cons, List.take_zero] at t0 t1 t2
            obtain ⟨p0, e0, rfl, u0⟩ := DataW.trod_string Tryz.underlying9 t0
            obtain ⟨p1, e1, rfl, u1⟩ := DataW.trod_string Tryz.underlying9 t1
            obtain ⟨p2, e2, rfl, u2⟩ := DataW.trod_int Tryz.underlying3 t2
            simp only [List.cons.injEq, and_true] at e0 e1 e2
            subst e0 e1 e2
            have g0 := hat 0 (by omega)
            have g1 := hat 1 (by omega)
            have g2 := hat 2 (by omega)
            rw [add_add] at g0 g1 g2
            rw [add_next a (i * 3) 0] at g1
            rw [add_next a (i * 3) 1] at g2
            exact ⟨⟨p0, p1, p2⟩, fun _ => ⟨hy.1, ⟨u0, u1, u2⟩, by simpa using g0, by simpa using g1, by simpa using g2⟩⟩
      · exact ⟨⟨⟨#[]⟩, ⟨#[]⟩, 0⟩, fun h => absurd h hil⟩
    obtain ⟨f, hf⟩ := Classical.axiomOfChoice each
    refine ⟨some a, cap, (List.range len).map f, by simp, ?_, .inr ⟨_, by simp only; congr 1; rw [List.map_map]; exact List.map_congr_left (fun i hi => (hf i (by simpa using hi)).1)⟩, ?_⟩
    · intro i hi
      have hi' : i < len := by simpa using hi
      obtain ⟨_, _, h0, h1, h2⟩ := hf i hi'
      exact ⟨a, rfl, by have := World.block_lt_of_cell? _ _ h0; rwa [add_block] at this, by simpa using h0, by simpa using h1, by simpa using h2⟩
    · intro x hx
      obtain ⟨i, hi, rfl⟩ := List.mem_map.1 hx
      exact (hf i (by simpa using hi)).2.1
theorem leasesAt_next {w w' : World} {ad : Option Addr} {xs : List LeaseD} (h : LeasesAt w ad xs) (hb : Below w.heap.size w w') : LeasesAt w' ad xs := by
  intro i hi
  obtain ⟨a, ha, hl, h0, h1, h2⟩ := h i hi
  exact ⟨a, ha, Nat.lt_of_lt_of_le hl hb.size, by rw [hb.cell (by simp only [add_block]; exact hl)]; exact h0, by rw [hb.cell (by simp only [add_block]; exact hl)]; exact h1, by rw [hb.cell (by simp only [add_block]; exact hl)]; exact h2⟩
set_option maxRecDepth 100000 in
theorem weightsLease {H : Type} (xs : List LeaseD) : ∀ x ∈ xs, ∀ z ∈ [x.job.size, x.node.size], z ∈ DataW.weightsAll Tryz.prog 42 (H := H) (xs.map dLease) := by
  induction xs with
  | nil => intro x hx; cases hx
  | cons y xs ih =>
    intro x hx z hz
    rw [List.map_cons, DataW.weightsAll, List.mem_append]
    rcases List.mem_cons.1 hx with rfl | h
    · left
      simpa [dLease, DataW.weights, DataW.weightsEach, Tryz.underlying42] using hz
    · exact .inr (ih x h z hz)
set_option maxRecDepth 100000 in
theorem sizedLeases {H : Type} {d : DataW H} {xs : List LeaseD} (h : ∀ z ∈ d.weights Tryz.prog 24, z ≤ reachBytes) (hx : (d = .nil ∧ xs = []) ∨ ∃ more, d = .slice (xs.map dLease) more) : xs.length * 40 ≤ reachBytes ∧ ∀ x ∈ xs, x.job.size ≤ reachBytes ∧ x.node.size ≤ reachBytes := by
  rcases hx with ⟨rfl, rfl⟩ | ⟨more, rfl⟩
  · exact ⟨by simp, fun x hx => by cases hx⟩
  · have hb : Tryz.prog.bytesOf 42 = 40 := by kernel_rfl
    simp only [DataW.weights, Tryz.underlying24, List.mem_cons, List.mem_append, hb] at h
    refine ⟨?_, fun x hx => ?_⟩
    · have := h _ (.inl rfl)
      rw [List.length_map] at this
      omega
    · have hw := weightsLease (H := H) xs x hx
      exact ⟨h _ (.inr (.inl (hw _ (by simp)))), h _ (.inr (.inl (hw _ (by simp))))⟩
/-- Rows that the call owns lie so, too. -/
def cLeases (xs : List LeaseD) : List Value := xs.flatMap cLease
theorem cLeases_append (a b : List LeaseD) : cLeases (a ++ b) = cLeases a ++ cLeases b := by simp [cLeases]
theorem cLeases_one (a : LeaseD) : cLeases [a] = cLease a := by simp [cLeases]
theorem cLeases_length (a : List LeaseD) : (cLeases a).length = a.length * 3 := by
  induction a with
  | nil => rfl
  | cons f a ih => rw [show f :: a = [f] ++ a from rfl, cLeases_append, List.length_append, ih, cLeases_one, List.length_append]; simp [cLease]; omega
theorem cLeases_ones (a : List LeaseD) : ∀ u : Value, u ∈ cLeases a → u.oneCell' = true := by
  intro u hu
  simp only [cLeases, List.mem_flatMap] at hu
  obtain ⟨f, _, hf⟩ := hu
  simp only [cLease, List.mem_cons, List.not_mem_nil, or_false] at hf
  rcases hf with rfl | rfl | rfl <;> rfl
theorem cLeases_at (a : List LeaseD) (i : Nat) (h : i < a.length) (j : Nat) (hj : j < 3) : (cLeases a)[i * 3 + j]? = (cLease a[i])[j]? := by
  induction a generalizing i with
  | nil => simp at h
  | cons f a ih =>
    rw [show cLeases (f :: a) = cLease f ++ cLeases a from by simp [cLeases]]
    cases i with
    | zero => rw [Nat.zero_mul, Nat.zero_add, List.getElem?_append_left (by simp [cLease]; omega)]; rfl
    | succ i =>
      rw [List.getElem?_append_right (by simp [cLease]; omega), show (i + 1) * 3 + j - (cLease f).length = i * 3 + j from by simp [cLease]; omega, ih i (by simpa using h)]; rfl
theorem ownLeases {w : World} {B n : Nat} {ad : Option Addr} {cap : Nat} {xs : List LeaseD} (h : w.ownsRow B 42 3 (.slice ad n cap) n (cLeases xs)) (hn : n = xs.length) : LeasesAt w ad xs := by
  subst hn
  intro i hi
  rcases h.2 with ⟨_, h0⟩ | ⟨g, cap', cur, hv, _⟩
  · omega
  · simp only [Value.slice.injEq] at hv
    obtain ⟨rfl, _⟩ := hv
    have hc := h.cells (g := g) rfl
    have hl := (h.lt g rfl).2
    have z : ∀ j, j < 3 → w.cell? ⟨g, i * 3 + j, none⟩ = (cLease xs[i])[j]? := by
      intro j hj
      have e := cLeases_at xs i hi j hj
      have hjl : j < (cLease xs[i]).length := hj
      rw [List.getElem?_eq_getElem hjl] at e ⊢
      have := hc _ _ e
      rwa [addr_add] at this
    refine ⟨⟨g, 0, none⟩, rfl, hl, ?_, ?_, ?_⟩
    all_goals simp only [addr_add]
    · exact z 0 (by omega)
    · exact z 1 (by omega)
    · exact z 2 (by omega)

/-- Where the rows of a state lie. -/
structure StM where
  aj : Option Addr
  cj : Nat
  an : Option Addr
  cn : Nat
  al : Option Addr
  cl : Nat
def stV (M : StM) (s : StD) : Value := .agg #[.int .i64 s.rev, .slice M.aj s.jobs.length M.cj, .slice M.an s.nodes.length M.cn, .slice M.al s.leases.length M.cl]
def StateAt (w : World) (M : StM) (s : StD) : Prop := JobsAt w M.aj s.jobs ∧ NodesAt w M.an s.nodes ∧ LeasesAt w M.al s.leases
set_option maxRecDepth 100000 in
theorem stateAt_next {w w' : World} {M : StM} {s : StD} (h : StateAt w M s) (hb : Below w.heap.size w w') : StateAt w' M s := ⟨jobsAt_next h.1 hb, nodesAt_next h.2.1 hb, leasesAt_next h.2.2 hb⟩
def wState (s : StD) : Prop := (Lit.int .i64 s.rev).wf = true ∧ (∀ x ∈ s.jobs, wJob x) ∧ (∀ x ∈ s.nodes, wNode x) ∧ ∀ x ∈ s.leases, wLease x
def DSt {H : Type} (d : DataW H) (s : StD) : Prop := ∃ dj dn dl, d = .agg [.lit (.int .i64 s.rev), dj, dn, dl] ∧ ((dj = .nil ∧ s.jobs = []) ∨ ∃ more, dj = .slice (s.jobs.map dJob) more) ∧ ((dn = .nil ∧ s.nodes = []) ∨ ∃ more, dn = .slice (s.nodes.map dNode) more) ∧ ((dl = .nil ∧ s.leases = []) ∨ ∃ more, dl = .slice (s.leases.map dLease) more)
set_option maxRecDepth 100000 in
theorem open_state {H : Type} {enc : TypeId × Value → H} {w : World} {base : Nat} {spare : Nat → Bool} {held : Bool} {r : Reach} {b0 : Nat} {v : Value} {d : DataW H} {ps : List MemPlace} (hv : Value.okWide Tryz.prog w r b0 26 v) (h : DataW.Trod enc Tryz.prog w base spare held 26 v d ps) :
    ∃ (M : StM) (s : StD), v = stV M s ∧ StateAt w M s ∧ DSt d s ∧ wState s := by
  obtain ⟨v0, v1, v2, v3, y0, y1, y2, y3, n, rfl, rfl, rfl, t0, t1, t2, t3⟩ := open_agg4 Tryz.underlying26 (by kernel_rfl) (by kernel_rfl) hv h
  obtain ⟨a, e0, rfl, w0⟩ := DataW.trod_int Tryz.underlying3 t0
  simp only [List.cons.injEq, and_true] at e0
  subst e0
  obtain ⟨aj, cj, xj, rfl, mj, dj, wj⟩ := openJobs t1
  obtain ⟨an, cn, xn, rfl, mn, dn, wn⟩ := openNodes t2
  obtain ⟨al, cl, xl, rfl, ml, dl, wl⟩ := openLeases t3
  exact ⟨⟨aj, cj, an, cn, al, cl⟩, ⟨a, xj, xn, xl⟩, rfl, ⟨mj, mn, ml⟩, ⟨_, _, _, rfl, dj, dn, dl⟩, w0, wj, wn, wl⟩
def SzState (s : StD) : Prop := (s.jobs.length ≤ 140737488351232 ∧ ∀ x ∈ s.jobs, x.name.size ≤ 140737488351232 ∧ x.tag.size ≤ 140737488351232) ∧ (s.nodes.length ≤ 140737488351232 ∧ ∀ x ∈ s.nodes, x.name.size ≤ 140737488351232 ∧ x.zone.size ≤ 140737488351232) ∧
  s.leases.length ≤ 140737488351232 ∧ ∀ x ∈ s.leases, x.job.size ≤ 140737488351232 ∧ x.node.size ≤ 140737488351232
set_option maxRecDepth 100000 in
theorem sized_state {H : Type} {ts : List TypeId} {ds : List (DataW H)} (h : (DataW.weightsEach Tryz.prog ts ds).all (· ≤ reachBytes) = true) {j : Nat} {d : DataW H} {s : StD} (ht : ts[j]? = some 26) (hd : ds[j]? = some d) (hx : DSt d s) : SzState s := by
  obtain ⟨dj, dn, dl, rfl, xj, xn, xl⟩ := hx
  have hall := List.all_eq_true.1 h
  have hm := DataW.weights_mem_each (P := Tryz.prog) ht hd
  simp only [DataW.weights, DataW.weightsEach, Tryz.underlying26, List.map_cons, List.map_nil, List.nil_append, List.append_nil, List.mem_append] at hm
  have hj := sizedJobs (d := dj) (xs := s.jobs) (fun z hz => by simpa using hall z (hm z (.inl hz))) xj
  have hn := sizedNodes (d := dn) (xs := s.nodes) (fun z hz => by simpa using hall z (hm z (.inr (.inl hz)))) xn
  have hl := sizedLeases (d := dl) (xs := s.leases) (fun z hz => by simpa using hall z (hm z (.inr (.inr hz)))) xl
  simp only [reachBytes] at hj hn hl
  exact ⟨⟨by omega, hj.2⟩, ⟨by omega, hn.2⟩, by omega, hl.2⟩
end Go.Proofs.YtiekgafopalfmaaGreatDoor

/- Small functions of states: bounds, keys; a block of cells kept behind calls. -/
namespace Go.Proofs.YtiekgafopalfmaaGreatDoor
open Go.RowKit

/-- The cells of one block, as they lie. -/
def Box (b : Nat) (vs : List Value) (w : World) : Prop := (∀ j v, vs[j]? = some v → w.cell? ⟨b, j, none⟩ = some v) ∧ b < w.heap.size
theorem box_next {b : Nat} {vs : List Value} {w w' : World} (h : Box b vs w) (hb : Below w.heap.size w w') : Box b vs w' :=
  ⟨fun j v hj => by rw [hb.cell (p := ⟨b, j, none⟩) h.2]; exact h.1 j v hj, Nat.lt_of_lt_of_le h.2 hb.size⟩
theorem Box.drew {b : Nat} {vs : List Value} {w : World} (h : Box b vs w) : Box b vs w.drew := h
theorem box_alloc {b : Nat} {vs : List Value} {w : World} (h : Box b vs w) (o : Obj) : Box b vs (w.alloc o) := box_next h ((Below.refl _ _).alloc (Nat.le_refl _) _)
theorem box_grown {b : Nat} {vs : List Value} {w w' : World} {row : Option Nat} (h : Box b vs w) (hg : w.grownBy w' row) (hne : some b ≠ row) : Box b vs w' :=
  ⟨fun j v hj => by rw [World.cell?_of_block (w := w) (a := ⟨b, j, none⟩) (hg.block b h.2 hne)]; exact h.1 j v hj, Nat.lt_of_lt_of_le h.2 hg.size⟩
theorem box_new2 (w : World) (a b : Value) (t : TypeId) : Box w.heap.size [a, b] (w.alloc (.cells #[a, b] t)) := by
  refine ⟨fun j v hj => ?_, by simp⟩
  match j with
  | 0 => simp at hj; subst hj; go_simp
  | 1 => simp at hj; subst hj; go_simp
  | j + 2 => simp at hj
theorem box_new3 (w : World) (a b c : Value) (t : TypeId) : Box w.heap.size [a, b, c] (w.alloc (.cells #[a, b, c] t)) := by
  refine ⟨fun j v hj => ?_, by simp⟩
  match j with
  | 0 => simp at hj; subst hj; go_simp
  | 1 => simp at hj; subst hj; go_simp
  | 2 => simp at hj; subst hj; go_simp
  | j + 3 => simp at hj
theorem box_new4 (w : World) (a b c d : Value) (t : TypeId) : Box w.heap.size [a, b, c, d] (w.alloc (.cells #[a, b, c, d] t)) := by
  refine ⟨fun j v hj => ?_, by simp⟩
  match j with
  | 0 => simp at hj; subst hj; go_simp
  | 1 => simp at hj; subst hj; go_simp
  | 2 => simp at hj; subst hj; go_simp
  | 3 => simp at hj; subst hj; go_simp
  | j + 4 => simp at hj
theorem box_new5 (w : World) (a b c d e : Value) (t : TypeId) : Box w.heap.size [a, b, c, d, e] (w.alloc (.cells #[a, b, c, d, e] t)) := by
  refine ⟨fun j v hj => ?_, by simp⟩
  match j with
  | 0 => simp at hj; subst hj; go_simp
  | 1 => simp at hj; subst hj; go_simp
  | 2 => simp at hj; subst hj; go_simp
  | 3 => simp at hj; subst hj; go_simp
  | 4 => simp at hj; subst hj; go_simp
  | j + 5 => simp at hj
theorem below_trans {B : Nat} {w0 w1 w2 : World} (h : Below B w0 w1) (k : Below w1.heap.size w1 w2) (hB : B ≤ w1.heap.size) : Below B w0 w2 := h.trans (k.mono hB)
theorem below_one (w : World) (o : Obj) : Below w.heap.size w (w.alloc o) := (Below.refl _ _).alloc (Nat.le_refl _) _

theorem within_is (n lo hi : Int) (w : World) :
    Calls Tryz.prog 31 #[.int .i64 n, .int .i64 lo, .int .i64 hi] w fun e w' => e = .returned (.bool (inR n lo hi)) ∧ w = w' := by
  unfold inR
  by_cases h : lo ≤ n
  · have h1 : decide (lo ≤ n) = true := by simpa using h
    rw [h1, Bool.true_and]
    go_enter Tryz.func31, Tryz.ntmps31
    go_wp2
    go_ret
    exact ⟨rfl, rfl⟩
  · have h1 : decide (lo ≤ n) = false := by simpa using h
    rw [h1, Bool.false_and]
    go_enter Tryz.func31, Tryz.ntmps31
    go_wp2
    go_ret
    exact ⟨rfl, rfl⟩
def jobV (j : JobD) : Value := .agg #[.string j.name, .int .i64 j.prio, .int .i64 j.need, .int .i64 j.tries, .string j.tag]
def nodeV (n : NodeD) : Value := .agg #[.string n.name, .int .i64 n.room, .string n.zone]
def leaseV (l : LeaseD) : Value := .agg #[.string l.job, .string l.node, .int .i64 l.til]
theorem jobName_is (j : JobD) (w : World) : Calls Tryz.prog 34 #[.agg #[.string j.name, .int .i64 j.prio, .int .i64 j.need, .int .i64 j.tries, .string j.tag]] w fun e w' => e = .returned (.string j.name) ∧ Below w.heap.size w w' := by
  go_enter Tryz.func34, Tryz.ntmps34
  go_wp2
  go_ret
  exact ⟨rfl, below_one _ _⟩
theorem nodeName_is (j : NodeD) (w : World) : Calls Tryz.prog 37 #[.agg #[.string j.name, .int .i64 j.room, .string j.zone]] w fun e w' => e = .returned (.string j.name) ∧ Below w.heap.size w w' := by
  go_enter Tryz.func37, Tryz.ntmps37
  go_wp2
  go_ret
  exact ⟨rfl, below_one _ _⟩
theorem leaseJob_is (j : LeaseD) (w : World) : Calls Tryz.prog 41 #[.agg #[.string j.job, .string j.node, .int .i64 j.til]] w fun e w' => e = .returned (.string j.job) ∧ Below w.heap.size w w' := by
  go_enter Tryz.func41, Tryz.ntmps41
  go_wp2
  go_ret
  exact ⟨rfl, below_one _ _⟩
end Go.Proofs.YtiekgafopalfmaaGreatDoor

/- The tables of a state, and what is used of a node: the program's maps. -/
namespace Go.Proofs.YtiekgafopalfmaaGreatDoor
open Go.RowKit

/-- A block of cells that may be written. -/
def OwnB (b : Nat) (vs : List Value) (w : World) : Prop := Box b vs w ∧ ∀ j, j < vs.length → w.frozen? ⟨b, j, none⟩ = false
theorem ownB_next {b : Nat} {vs : List Value} {w w' : World} (h : OwnB b vs w) (hb : Below w.heap.size w w') : OwnB b vs w' :=
  ⟨box_next h.1 hb, fun j hj => by rw [hb.frozen (p := ⟨b, j, none⟩) h.1.2]; exact h.2 j hj⟩
theorem ownB_alloc {b : Nat} {vs : List Value} {w : World} (h : OwnB b vs w) (o : Obj) : OwnB b vs (w.alloc o) := ownB_next h (below_one _ _)
theorem ownB_grown {b : Nat} {vs : List Value} {w w' : World} {row : Option Nat} (h : OwnB b vs w) (hg : w.grownBy w' row) (hne : some b ≠ row) : OwnB b vs w' :=
  ⟨box_grown h.1 hg hne, fun j hj => by rw [World.frozen?_of_block (w := w) (a := ⟨b, j, none⟩) (hg.block b h.1.2 hne)]; exact h.2 j hj⟩
theorem ownB_new2 (w : World) (a b : Value) (t : TypeId) : OwnB w.heap.size [a, b] (w.alloc (.cells #[a, b] t)) := by
  refine ⟨box_new2 _ _ _ _, fun j hj => ?_⟩
  match j with
  | 0 => go_simp
  | 1 => go_simp
  | j + 2 => exact absurd hj (by simp)
theorem grownB_below {B : Nat} {w0 w w' : World} {b : Nat} (h : Below B w0 w) (k : w.grownBy w' (some b)) (hB : B ≤ w.heap.size) (hb : B ≤ b) : Below B w0 w' := h.grown k hB (fun j hj => by simp at hj; omega)
theorem mapAt_set {w : World} {b b' n : Nat} {f : ByteArray → Option Value} (h : MapAt w b n f) (hne : b ≠ b') (j : Nat) (u : Value) : MapAt (w.setCell ⟨b', j, none⟩ u) b n f := h.elim fun D h => ⟨D, h.1.setCell (a := ⟨b', j, none⟩) hne u, h.2⟩
set_option maxRecDepth 100000 in
set_option maxHeartbeats 2000000 in
theorem tablesOf_is (rev : Int) (aj an al : Option Addr) (cj cn cl : Nat) (jobs : List JobD) (nodes : List NodeD) (leases : List LeaseD) (hj : jobs.length ≤ 40) (hn : nodes.length ≤ 20)
    (hwj : ∀ x ∈ jobs, wJob x) (hwn : ∀ x ∈ nodes, wNode x) (w : World) (hmj : JobsAt w aj jobs) (hmn : NodesAt w an nodes) :
    Calls Tryz.prog 38 #[.agg #[.int .i64 rev, .slice aj jobs.length cj, .slice an nodes.length cn, .slice al leases.length cl]] w fun e w' =>
      ∃ bj bn, e = .returned (.agg #[.map (some bj), .map (some bn)]) ∧ MapAt w' bj 40 (tabF (·.name) jobV jobs) ∧ MapAt w' bn 20 (tabF (·.name) nodeV nodes) ∧ Below w.heap.size w w' := by
  have hmm := @run_makeMap Tryz.prog
  have HMJ := Lib.hid hmj
  have HMN := Lib.hid hmn
  have HWJ := Lib.hid hwj
  have HWN := Lib.hid hwn
  clear hmj hmn hwj hwn
  go_enter Tryz.func38, Tryz.ntmps38
  go_wp2
  clear hmm
  go_loopw [14] (fun iv wr => ∃ (i : Nat), iv = .int .i64 (i : Int) ∧ i ≤ jobs.length ∧ Below w.heap.size w wr ∧ Box w.heap.size [.int .i64 rev, .slice aj jobs.length cj, .slice an nodes.length cn, .slice al leases.length cl] wr ∧ OwnB (w.heap.size + 1) [.map none, .map none] wr ∧
    Box (w.heap.size + 1 + 1 + 1 + 1) [.map (some (w.heap.size + 1 + 1)), .map (some (w.heap.size + 1 + 1 + 1))] wr ∧ MapAt wr (w.heap.size + 1 + 1) i (tabF (·.name) jobV (jobs.take i)) ∧ MapAt wr (w.heap.size + 1 + 1 + 1) 0 (fun _ => none)) (fun iv _ => jobs.length - (intOf iv).toNat)
  case atStart =>
    have q1 := box_new4 w (.int .i64 rev) (.slice aj jobs.length cj) (.slice an nodes.length cn) (.slice al leases.length cl) 26
    obtain ⟨W0, e0⟩ : ∃ W0, w.alloc (.cells #[.int .i64 rev, .slice aj jobs.length cj, .slice an nodes.length cn, .slice al leases.length cl] 26) = W0 := ⟨_, rfl⟩
    have s0 : W0.heap.size = w.heap.size + 1 := by rw [← e0, World.size_alloc]
    have b0 : Below w.heap.size w W0 := by rw [← e0]; exact below_one _ _
    rw [e0] at q1 ⊢
    have q2 := ownB_new2 W0 (.map none) (.map none) 84
    obtain ⟨W1, e1⟩ : ∃ W1, W0.alloc (.cells #[.map none, .map none] 84) = W1 := ⟨_, rfl⟩
    have s1 : W1.heap.size = w.heap.size + 1 + 1 := by rw [← e1, World.size_alloc, s0]
    have b1 : Below w.heap.size w W1 := by rw [← e1]; exact b0.alloc (by omega) _
    have r1 : Box w.heap.size [.int .i64 rev, .slice aj jobs.length cj, .slice an nodes.length cn, .slice al leases.length cl] W1 := by rw [← e1]; exact box_alloc q1 _
    rw [e1, s0] at q2
    rw [e1]
    have q3 := mapAt_made W1
    obtain ⟨W2, e2⟩ : ∃ W2, W1.alloc (.map #[] 0) = W2 := ⟨_, rfl⟩
    have s2 : W2.heap.size = w.heap.size + 1 + 1 + 1 := by rw [← e2, World.size_alloc, s1]
    have b2 : Below w.heap.size w W2 := by rw [← e2]; exact b1.alloc (by omega) _
    have r2 : Box w.heap.size [.int .i64 rev, .slice aj jobs.length cj, .slice an nodes.length cn, .slice al leases.length cl] W2 := by rw [← e2]; exact box_alloc r1 _
    have t2 : OwnB (w.heap.size + 1) [.map none, .map none] W2 := by rw [← e2]; exact ownB_alloc q2 _
    rw [e2, s1] at q3
    rw [e2]
    have q4 := mapAt_made W2
    rw [s2] at q4
    have q5 := box_new2 (W2.alloc (.map #[] 0)) (.map (some (w.heap.size + 1 + 1))) (.map (some (w.heap.size + 1 + 1 + 1))) 84
    rw [World.size_alloc, s2] at q5
    exact ⟨0, rfl, Nat.zero_le _, (b2.alloc b2.size _).alloc (by rw [World.size_alloc]; omega) _, box_alloc (box_alloc r2 _) _, ownB_alloc (ownB_alloc t2 _) _, q5, mapAt_ext (mapAt_alloc (mapAt_alloc q3 _) _) (fun s => rfl), mapAt_alloc q4 _⟩
  case round =>
    obtain ⟨i, rfl, hi, hbr, hS, hO, hB, h1, h2⟩ := hrel
    by_cases h : (i : Int) < (jobs.length : Int)
    · have hil : i < jobs.length := by omega
      obtain ⟨a, rfl, hal, k0, k1, k2, k3, k4⟩ := jobsAt_next HMJ.out hbr i hil
      obtain ⟨x, hxi⟩ : ∃ x, jobs[i] = x := ⟨_, rfl⟩
      rw [hxi] at k0 k1 k2 k3 k4
      have hwx : x.name.size ≤ maxLen := (HWJ.out x (by rw [← hxi]; exact List.getElem_mem _)).1
      have Hxi := Lib.hid hxi
      have kb := (box_alloc hB (.cells #[.string x.name, .int .i64 x.prio, .int .i64 x.need, .int .i64 x.tries, .string x.tag] 38)).1 0 _ rfl
      have h1' := mapAt_alloc h1 (.cells #[.string x.name, .int .i64 x.prio, .int .i64 x.need, .int .i64 x.tries, .string x.tag] 38)
      clear hxi
      go_wp2_with (at_mapUpdate; refine wpList_put _ rfl _ _ _ 81 rfl 38 Tryz.underlying81 _ _ _ rfl h1' (by unfold maxLen; omega) x.name rfl hwx (jobV x) rfl ?_)
      intro w1 h3 hg
      have hbs := hbr.size
      have hbel := grownB_below (hbr.alloc hbs (.cells #[.string x.name, .int .i64 x.prio, .int .i64 x.need, .int .i64 x.tries, .string x.tag] 38)) hg (by simp; omega) (by omega)
      have hS1 := box_grown (box_alloc hS _) hg (by intro e; simp only [Option.some.injEq] at e; omega)
      have hO1 := ownB_grown (ownB_alloc hO _) hg (by intro e; simp only [Option.some.injEq] at e; omega)
      have hB1 := box_grown (box_alloc hB _) hg (by intro e; simp only [Option.some.injEq] at e; omega)
      have h21 := mapAt_kept (mapAt_alloc h2 _) hg (by intro e; simp only [Option.some.injEq] at e; omega)
      have h11 : MapAt w1 (w.heap.size + 1 + 1) (i + 1) (tabF (·.name) jobV (jobs.take (i + 1))) := mapAt_ext h3 (fun s => by have := tabF_step (·.name) jobV jobs i hil s; rw [Hxi.out] at this; exact this)
      clear h3 hg h1 h2 hS hO hB h1' kb k0 k1 k2 k3 k4
      go_wp2
      go_roundw
      case rel => exact ⟨i + 1, by simp, by omega, hbel, hS1, hO1, hB1, h11, h21⟩
      case measure => simp [intOf]; omega
    · obtain rfl : i = jobs.length := by omega
      rw [List.take_length] at h1
      have c2 := hS.1 2 _ rfl
      have hj40 := mapAt_mono h1 hj
      have hO2 := Lib.hid hO
      clear h1
      go_wp2
      go_loopw [27] (fun iv wr => ∃ (i : Nat), iv = .int .i64 (i : Int) ∧ i ≤ nodes.length ∧ Below w.heap.size w wr ∧ OwnB (w.heap.size + 1) [.map none, .map none] wr ∧
        Box (w.heap.size + 1 + 1 + 1 + 1) [.map (some (w.heap.size + 1 + 1)), .map (some (w.heap.size + 1 + 1 + 1))] wr ∧ MapAt wr (w.heap.size + 1 + 1) 40 (tabF (·.name) jobV jobs) ∧ MapAt wr (w.heap.size + 1 + 1 + 1) i (tabF (·.name) nodeV (nodes.take i))) (fun iv _ => nodes.length - (intOf iv).toNat)
      case atStart => exact ⟨0, rfl, Nat.zero_le _, hbr, hO, hB, hj40, mapAt_ext h2 (fun s => rfl)⟩
      case round =>
        clear hS hO hB hj40 h2 hbr c2 hO2
        obtain ⟨i, rfl, hi, hbr, hO, hB, h1, h2⟩ := hrel
        by_cases h : (i : Int) < (nodes.length : Int)
        · have hil : i < nodes.length := by omega
          obtain ⟨a, rfl, hal, k0, k1, k2⟩ := nodesAt_next HMN.out hbr i hil
          obtain ⟨x, hxi⟩ : ∃ x, nodes[i] = x := ⟨_, rfl⟩
          rw [hxi] at k0 k1 k2
          have hwx : x.name.size ≤ maxLen := (HWN.out x (by rw [← hxi]; exact List.getElem_mem _)).1
          have Hxi := Lib.hid hxi
          have kb := (box_alloc hB (.cells #[.string x.name, .int .i64 x.room, .string x.zone] 40)).1 1 _ rfl
          have h2' := mapAt_alloc h2 (.cells #[.string x.name, .int .i64 x.room, .string x.zone] 40)
          clear hxi
          go_wp2_with (at_mapUpdate; refine wpList_put _ rfl _ _ _ 82 rfl 40 Tryz.underlying82 _ _ _ rfl h2' (by unfold maxLen; omega) x.name rfl hwx (nodeV x) rfl ?_)
          intro w1 h3 hg
          have hbs := hbr.size
          have hbel := grownB_below (hbr.alloc hbs (.cells #[.string x.name, .int .i64 x.room, .string x.zone] 40)) hg (by simp; omega) (by omega)
          have hO1 := ownB_grown (ownB_alloc hO _) hg (by intro e; simp only [Option.some.injEq] at e; omega)
          have hB1 := box_grown (box_alloc hB _) hg (by intro e; simp only [Option.some.injEq] at e; omega)
          have h11 := mapAt_kept (mapAt_alloc h1 _) hg (by intro e; simp only [Option.some.injEq] at e; omega)
          have h21 : MapAt w1 (w.heap.size + 1 + 1 + 1) (i + 1) (tabF (·.name) nodeV (nodes.take (i + 1))) := mapAt_ext h3 (fun s => by have := tabF_step (·.name) nodeV nodes i hil s; rw [Hxi.out] at this; exact this)
          clear h3 hg h1 h2 hO hB h2' kb k0 k1 k2
          go_wp2
          go_roundw
          case rel => exact ⟨i + 1, by simp, by omega, hbel, hO1, hB1, h11, h21⟩
          case measure => simp [intOf]; omega
        · obtain rfl : i = nodes.length := by omega
          rw [List.take_length] at h2
          have c0 := hB.1 0 _ rfl
          have c1 := hB.1 1 _ rfl
          have o0 := hO.1.1 0 _ rfl
          have o1 := hO.1.1 1 _ rfl
          have f0 := hO.2 0 (by simp)
          have f1 := hO.2 1 (by simp)
          have h11 := mapAt_set (mapAt_set h1 (b' := w.heap.size + 1) (by omega) 0 (.map (some (w.heap.size + 1 + 1)))) (b' := w.heap.size + 1) (by omega) 1 (.map (some (w.heap.size + 1 + 1 + 1)))
          have h21 := mapAt_set (mapAt_set h2 (b' := w.heap.size + 1) (by omega) 0 (.map (some (w.heap.size + 1 + 1)))) (b' := w.heap.size + 1) (by omega) 1 (.map (some (w.heap.size + 1 + 1 + 1)))
          have hbel := (hbr.setCell (p := ⟨w.heap.size + 1, 0, none⟩) (Nat.le_succ _) (.map (some (w.heap.size + 1 + 1)))).setCell (p := ⟨w.heap.size + 1, 1, none⟩) (Nat.le_succ _) (.map (some (w.heap.size + 1 + 1 + 1)))
          have q0 : ((wr.setCell ⟨w.heap.size + 1, 0, none⟩ (.map (some (w.heap.size + 1 + 1)))).setCell ⟨w.heap.size + 1, 1, none⟩ (.map (some (w.heap.size + 1 + 1 + 1)))).cell? ⟨w.heap.size + 1, 0, none⟩ = some (.map (some (w.heap.size + 1 + 1))) := by go_simp
          have q1 : ((wr.setCell ⟨w.heap.size + 1, 0, none⟩ (.map (some (w.heap.size + 1 + 1)))).setCell ⟨w.heap.size + 1, 1, none⟩ (.map (some (w.heap.size + 1 + 1 + 1)))).cell? ⟨w.heap.size + 1, 1, none⟩ = some (.map (some (w.heap.size + 1 + 1 + 1))) := by go_simp
          clear h1 h2 hO hB hbr
          go_wp2
          exact bodyPost_ret (v := .agg #[.map (some (w.heap.size + 1 + 1)), .map (some (w.heap.size + 1 + 1 + 1))]) (by simp [results, Tryz.results38, go_sem, q0, q1]) rfl ⟨_, _, rfl, h11, mapAt_mono h21 hn, hbel⟩
/-- Zero values. -/
theorem zeroJob (w : World) : (zeroValue 38).run Tryz.prog w = .ok (jobV zeroJ) w := by kernel_rfl
theorem zeroNode (w : World) : (zeroValue 40).run Tryz.prog w = .ok (nodeV zeroN) w := by kernel_rfl
theorem zeroInt (w : World) : (zeroValue 3).run Tryz.prog w = .ok (.int .i64 0) w := by kernel_rfl
theorem field_need (a b c d e : Value) (w : World) : (Instr.field 38 (.agg #[a, b, c, d, e]) 2).run Tryz.prog w = .ok c w := by kernel_rfl
set_option maxRecDepth 100000 in
set_option maxHeartbeats 2000000 in
theorem used_is (U : ByteArray → Bool) (bj bn : Nat) (jobs : List JobD) (hJ : ∀ j ∈ jobs, jobE U j = 0) (hA : Asc (·.name) jobs) (al : Option Addr) (cl : Nat) (leases : List LeaseD) (hl : leases.length ≤ 40) (hwl : ∀ x ∈ leases, wLease x)
    (w : World) (hml : LeasesAt w al leases) (hM : MapAt w bj 40 (tabF (·.name) jobV jobs)) :
    Calls Tryz.prog 77 #[.agg #[.map (some bj), .map (some bn)], .slice al leases.length cl] w fun e w' =>
      ∃ bs, e = .returned (.map (some bs)) ∧ MapAt w' bs 40 (sumF jobs leases) ∧ Below w.heap.size w w' := by
  have hmm := @run_makeMap Tryz.prog
  have HML := Lib.hid hml
  have HWL := Lib.hid hwl
  have HM := Lib.hid hM
  have HJ := Lib.hid hJ
  have HA := Lib.hid hA
  clear hml hwl hM hJ hA
  go_enter Tryz.func77, Tryz.ntmps77
  go_wp2
  clear hmm
  go_loopw [11] (fun iv wr => ∃ (i : Nat), iv = .int .i64 (i : Int) ∧ i ≤ leases.length ∧ Below w.heap.size w wr ∧ Box w.heap.size [.map (some bj), .map (some bn)] wr ∧ MapAt wr (w.heap.size + 1) i (sumF jobs (leases.take i))) (fun iv _ => leases.length - (intOf iv).toNat)
  case atStart =>
    have q1 := box_new2 w (.map (some bj)) (.map (some bn)) 84
    have q3 := mapAt_made (w.alloc (.cells #[.map (some bj), .map (some bn)] 84))
    rw [World.size_alloc] at q3
    exact ⟨0, rfl, Nat.zero_le _, (below_one _ _).alloc (by simp) _, box_alloc q1 _, mapAt_ext q3 (fun s => rfl)⟩
  case round =>
    obtain ⟨i, rfl, hi, hbr, hB, h1⟩ := hrel
    by_cases h : (i : Int) < (leases.length : Int)
    · have hil : i < leases.length := by omega
      obtain ⟨a, rfl, hal, k0, k1, k2⟩ := leasesAt_next HML.out hbr i hil
      have hst := sumF_step jobs leases i hil
      have hbd := used_take_bd U HJ.out leases[i].node leases hl i
      have hnd := needOf_bd U HJ.out leases[i].job
      obtain ⟨x, hxi⟩ : ∃ x, leases[i] = x := ⟨_, rfl⟩
      rw [hxi] at k0 k1 k2 hst hbd hnd
      have hwx := HWL.out x (by rw [← hxi]; exact List.getElem_mem _)
      have hw0 : x.job.size ≤ maxLen := hwx.1
      have hw1 : x.node.size ≤ maxLen := hwx.2.1
      obtain ⟨c, hc⟩ : ∃ c, c = usedD jobs (leases.take i) x.node := ⟨_, rfl⟩
      obtain ⟨d, hd⟩ : ∃ d, d = needOf jobs x.job := ⟨_, rfl⟩
      rw [← hc, ← hd] at hst
      rw [← hc] at hbd
      rw [← hd] at hnd
      have kb := (box_alloc hB (.cells #[.string x.job, .string x.node, .int .i64 x.til] 42)).1 0 _ rfl
      have h1' := mapAt_alloc h1 (.cells #[.string x.job, .string x.node, .int .i64 x.til] 42)
      have hM' := mapAt_alloc (mapAt_below HM.out hbr) (.cells #[.string x.job, .string x.node, .int .i64 x.til] 42)
      have z1 : (sumF jobs (leases.take i) x.node).getD (.int .i64 0) = .int .i64 c := by rw [hc]; exact sumF_get _ _ _
      have z2 := tabF_pickJ jobV jobs x.job
      have z3 := pickJ_need HA.out x.job
      rw [← hd] at z3
      obtain ⟨y, hy⟩ : ∃ y, y = pickJ jobs x.job := ⟨_, rfl⟩
      rw [← hy] at z2 z3
      have hwr : IntKind.i64.wrap (c + d) = c + d := IntWalk.i64_in _ (by omega)
      have Z1 := Lib.hid z1
      have Z2 : Hid ((tabF (·.name) jobV jobs x.job).getD (jobV zeroJ) = .agg #[.string y.name, .int .i64 y.prio, .int .i64 d, .int .i64 y.tries, .string y.tag]) := by show _ = _; rw [z2, ← z3]; rfl
      have HST := Lib.hid hst
      have hfn := field_need (.string y.name) (.int .i64 y.prio) (.int .i64 d) (.int .i64 y.tries) (.string y.tag)
      clear hxi hc hd hy z1 z2 z3 hwx hst
      have hbs := hbr.size
      go_wp2_with (first
        | (at_lookup; refine wpList_look _ rfl _ _ 116 rfl 3 Tryz.underlying116 (zeroInt _) _ _ _ rfl h1' x.node rfl hw1 _ Z1.out ?_)
        | (at_lookup; refine wpList_look _ rfl _ _ 81 rfl 38 Tryz.underlying81 (zeroJob _) _ _ _ rfl hM' x.job rfl hw0 _ Z2.out ?_)
        | (at_mapUpdate; refine wpList_put _ rfl _ _ _ 116 rfl 3 Tryz.underlying116 _ _ _ rfl h1' (by unfold maxLen; omega) x.node rfl hw1 (.int .i64 (c + d)) rfl ?_))
      intro w1 h3 hg
      have hbel := grownB_below (hbr.alloc hbs (.cells #[.string x.job, .string x.node, .int .i64 x.til] 42)) hg (by simp; omega) (by omega)
      have hB1 := box_grown (box_alloc hB _) hg (by intro e; simp only [Option.some.injEq] at e; omega)
      have h11 : MapAt w1 (w.heap.size + 1) (i + 1) (sumF jobs (leases.take (i + 1))) := mapAt_ext h3 HST.out
      clear h3 hg h1 hB h1' kb k0 k1 k2 hM'
      go_wp2
      go_roundw
      case rel => exact ⟨i + 1, by simp, by omega, hbel, hB1, h11⟩
      case measure => simp [intOf]; omega
    · obtain rfl : i = leases.length := by omega
      rw [List.take_length] at h1
      have h2 := mapAt_mono h1 hl
      go_wp2
      go_ret
      exact ⟨_, rfl, h2, hbr⟩
end Go.Proofs.YtiekgafopalfmaaGreatDoor

/- state.checkRows at jobs, nodes and leases: the error of the first row that has one. -/
namespace Go.Proofs.YtiekgafopalfmaaGreatDoor
open Go.RowKit

theorem rows_stop {α : Type} {E : α → Nat} {key : α → ByteArray} {l : List α} {i : Nat} {R : Nat} (h : i < l.length) (H : rowsE E key (prevK key l i) (l.drop i) = R) {e : Nat} (he : E l[i] = e) (h0 : e ≠ 0) : R = e := by
  rw [rowsE_step E key l i h, if_pos (by rw [he]; exact h0)] at H
  rw [← H, he]
theorem rows_first {α : Type} {E : α → Nat} {key : α → ByteArray} {l : List α} {R : Nat} (h : 0 < l.length) (H : rowsE E key (prevK key l 0) (l.drop 0) = R) (he : E l[0] = 0) : rowsE E key (prevK key l 1) (l.drop 1) = R := by
  rw [rowsE_step E key l 0 h, if_neg (by rw [he]; simp), badO_first] at H
  exact H
theorem rows_on {α : Type} {E : α → Nat} {key : α → ByteArray} {l : List α} {i : Nat} {R : Nat} (h : i + 1 < l.length) (H : rowsE E key (prevK key l (i + 1)) (l.drop (i + 1)) = R) (he : E l[i + 1] = 0) (hb : lt (key l[i]) (key l[i + 1])) : rowsE E key (prevK key l (i + 1 + 1)) (l.drop (i + 1 + 1)) = R := by
  rw [rowsE_step E key l (i + 1) h, if_neg (by rw [he]; simp), badO_later key l i (by omega)] at H
  simpa [hb] using H
theorem rows_bad {α : Type} {E : α → Nat} {key : α → ByteArray} {l : List α} {i : Nat} {R : Nat} (h : i + 1 < l.length) (H : rowsE E key (prevK key l (i + 1)) (l.drop (i + 1)) = R) (he : E l[i + 1] = 0) (hb : ¬ lt (key l[i]) (key l[i + 1])) : R = 8 := by
  rw [rowsE_step E key l (i + 1) h, if_neg (by rw [he]; simp), badO_later key l i (by omega)] at H
  simp [hb] at H
  exact H.symm
theorem rowS_job {b : Nat} {p : Addr} {x y : JobD} {w w1 w2 : World} (b2 : Below w1.heap.size w1 w2) (h : ((w1.cell? ⟨b, 0, none⟩ = some (.string x.name) ∧ w1.cell? ⟨b, 1, none⟩ = some (.int .i64 x.prio) ∧ w1.cell? ⟨b, 2, none⟩ = some (.int .i64 x.need) ∧ w1.cell? ⟨b, 3, none⟩ = some (.int .i64 x.tries) ∧ w1.cell? ⟨b, 4, none⟩ = some (.string x.tag)) ∧ (w1.cell? p = some (.string y.name) ∧ w1.cell? ⟨p.block, p.off + 1, none⟩ = some (.int .i64 y.prio) ∧ w1.cell? ⟨p.block, p.off + 2, none⟩ = some (.int .i64 y.need) ∧ w1.cell? ⟨p.block, p.off + 3, none⟩ = some (.int .i64 y.tries) ∧ w1.cell? ⟨p.block, p.off + 4, none⟩ = some (.string y.tag))) ∧ (b < w1.heap.size ∧ p.block < w1.heap.size) ∧ Below w.heap.size w w1) : ((w2.cell? ⟨b, 0, none⟩ = some (.string x.name) ∧ w2.cell? ⟨b, 1, none⟩ = some (.int .i64 x.prio) ∧ w2.cell? ⟨b, 2, none⟩ = some (.int .i64 x.need) ∧ w2.cell? ⟨b, 3, none⟩ = some (.int .i64 x.tries) ∧ w2.cell? ⟨b, 4, none⟩ = some (.string x.tag)) ∧ (w2.cell? p = some (.string y.name) ∧ w2.cell? ⟨p.block, p.off + 1, none⟩ = some (.int .i64 y.prio) ∧ w2.cell? ⟨p.block, p.off + 2, none⟩ = some (.int .i64 y.need) ∧ w2.cell? ⟨p.block, p.off + 3, none⟩ = some (.int .i64 y.tries) ∧ w2.cell? ⟨p.block, p.off + 4, none⟩ = some (.string y.tag))) ∧ (b < w2.heap.size ∧ p.block < w2.heap.size) ∧ Below w.heap.size w w2 := by
  obtain ⟨⟨⟨c0, c1, c2, c3, c4⟩, ⟨p0, p1, p2, p3, p4⟩⟩, ⟨h1, h2⟩, h3⟩ := h
  have hs := b2.size
  exact ⟨⟨⟨by rw [b2.cell (p := ⟨b, 0, none⟩) h1]; exact c0, by rw [b2.cell (p := ⟨b, 1, none⟩) h1]; exact c1, by rw [b2.cell (p := ⟨b, 2, none⟩) h1]; exact c2, by rw [b2.cell (p := ⟨b, 3, none⟩) h1]; exact c3, by rw [b2.cell (p := ⟨b, 4, none⟩) h1]; exact c4⟩, ⟨by rw [b2.cell h2]; exact p0, by rw [b2.cell (p := ⟨p.block, p.off + 1, none⟩) h2]; exact p1, by rw [b2.cell (p := ⟨p.block, p.off + 2, none⟩) h2]; exact p2, by rw [b2.cell (p := ⟨p.block, p.off + 3, none⟩) h2]; exact p3, by rw [b2.cell (p := ⟨p.block, p.off + 4, none⟩) h2]; exact p4⟩⟩, ⟨by omega, by omega⟩, below_trans h3 b2 h3.size⟩
set_option maxRecDepth 100000 in
set_option maxHeartbeats 4000000 in
theorem checkRows_job (T : World → Prop) (hTn : ∀ w w', T w → Below w.heap.size w w' → T w') (E : JobD → Nat) (xs : List JobD)
    (HC : ∀ x ∈ xs, ∀ w, T w → Calls Tryz.prog 33 #[.agg #[.string x.name, .int .i64 x.prio, .int .i64 x.need, .int .i64 x.tries, .string x.tag]] w fun e w' => e = .returned (.int .i64 (E x : Nat)) ∧ Below w.heap.size w w')
    (ad : Option Addr) (cap : Nat) (hlen : xs.length ≤ 40) (w : World) (hT : T w) (hx : JobsAt w ad xs) :
    Calls Tryz.prog 32 #[.slice ad xs.length cap, .func (.func 33) #[] #[], .func (.func 34) #[] #[]] w fun e w' => e = .returned (.int .i64 (rowsE E (·.name) none xs : Nat)) ∧ Below w.heap.size w w' := by
  obtain ⟨R, hR⟩ : ∃ R, rowsE E (·.name) none xs = R := ⟨_, rfl⟩
  rw [hR]
  have HR0 : Hid (rowsE E (·.name) (prevK (·.name) xs 0) (xs.drop 0) = R) := hR
  have HC := Lib.hid HC
  have HX := Lib.hid hx
  have HTn := Lib.hid hTn
  have HT := Lib.hid hT
  clear hR hx hTn hT
  go_enter Tryz.func32, Tryz.ntmps32
  go_wp2
  go_loopw [12] (fun iv wr => ∃ (i : Nat), iv = .int .i64 (i : Int) ∧ i ≤ xs.length ∧ Below w.heap.size w wr ∧ Hid (rowsE E (·.name) (prevK (·.name) xs i) (xs.drop i) = R)) (fun iv _ => xs.length - (intOf iv).toNat)
  case atStart => exact ⟨0, rfl, by omega, Below.refl _ _, HR0⟩
  case round =>
    obtain ⟨i, rfl, hi, hbr, HR⟩ := hrel
    by_cases h : (i : Int) < (xs.length : Int)
    · have hil : i < xs.length := by omega
      have hx := jobsAt_next HX.out hbr
      obtain ⟨a, rfl, hal, k0, k1, k2, k3, k4⟩ := hx i hil
      have HTr := HTn.out _ _ HT.out hbr
      obtain ⟨x, hxi⟩ : ∃ x, xs[i] = x := ⟨_, rfl⟩
      rw [hxi] at k0 k1 k2 k3 k4
      have hm : x ∈ xs := by rw [← hxi]; exact List.getElem_mem _
      have HCx := Lib.hid (HC.out x hm (wr.alloc (.cells #[.string x.name, .int .i64 x.prio, .int .i64 x.need, .int .i64 x.tries, .string x.tag] 38)) (HTn.out _ _ HTr (below_one _ _)))
      obtain ⟨e0, he0⟩ : ∃ e0, E x = e0 := ⟨_, rfl⟩
      rw [he0] at HCx
      have Hxi := Lib.hid hxi
      clear hx hxi
      go_wp2_with fail
      refine HCx.out.mono ?_
      rintro e w1 ⟨rfl, b1⟩
      have bx := box_next (box_new5 wr (.string x.name) (.int .i64 x.prio) (.int .i64 x.need) (.int .i64 x.tries) (.string x.tag) 38) b1
      have hb1 : Below w.heap.size w w1 := below_trans (hbr.alloc hbr.size _) b1 (by have := hbr.size; simp; omega)
      by_cases h0 : e0 ≠ 0
      · have HR1 : Hid (R = e0) := rows_stop hil HR.out (by rw [Hxi.out]; exact he0) h0
        have hc : ((e0 : Int) != 0) = true := by simp; omega
        go_wp2
        go_ret
        exact ⟨by rw [HR1.out]; rfl, hb1⟩
      · have h0 : e0 = 0 := by simpa using h0
        subst h0
        have c0 := bx.1 0 _ rfl
        have c1 := bx.1 1 _ rfl
        have c2 := bx.1 2 _ rfl
        have c3 := bx.1 3 _ rfl
        have c4 := bx.1 4 _ rfl
        have hb0 : wr.heap.size < w1.heap.size := bx.2
        have HE0 : Hid (E x = 0) := he0
        clear he0 HCx k0 k1 k2 k3 k4 hal
        cases i with
        | zero =>
          have HR1 : Hid (rowsE E (·.name) (prevK (·.name) xs 1) (xs.drop 1) = R) := rows_first hil HR.out (by rw [Hxi.out]; exact HE0.out)
          go_wp2_with fail
          go_region
          go_wp2
          go_roundw
          case rel => exact ⟨1, by simp, by omega, hb1.drew, HR1⟩
          case measure => simp [intOf]; omega
        | succ m =>
          obtain ⟨a', ha', hal, p0, p1, p2, p3, p4⟩ := jobsAt_next HX.out hb1 m (by omega)
          cases ha'
          obtain ⟨y, hy⟩ : ∃ y, xs[m] = y := ⟨_, rfl⟩
          rw [hy] at p0 p1 p2 p3 p4
          have hwr : IntKind.i64.wrap (m : Int) = (m : Int) := IntWalk.i64_in _ (by omega)
          have hm0 : (0 : Int) ≤ (m : Int) := by omega
          have hm1 : (m : Int) < (xs.length : Int) := by omega
          have hpb : (a.add (m * 5)).block < w1.heap.size := by rw [add_block]; exact hal
          have HY : Hid (xs[m] = y) := hy
          clear hy bx b1
          go_wp2_with fail
          by_cases hlt : lt y.name x.name
          · obtain ⟨hl1, hl2⟩ := above_lists hlt
            have HR1 : Hid (rowsE E (·.name) (prevK (·.name) xs (m + 1 + 1)) (xs.drop (m + 1 + 1)) = R) := rows_on hil HR.out (by rw [Hxi.out]; exact HE0.out) (by rw [HY.out, Hxi.out]; exact hlt)
            clear hlt
            go_region_held3 (fun w' => ((w'.cell? ⟨wr.heap.size, 0, none⟩ = some (.string x.name) ∧ w'.cell? ⟨wr.heap.size, 1, none⟩ = some (.int .i64 x.prio) ∧ w'.cell? ⟨wr.heap.size, 2, none⟩ = some (.int .i64 x.need) ∧ w'.cell? ⟨wr.heap.size, 3, none⟩ = some (.int .i64 x.tries) ∧ w'.cell? ⟨wr.heap.size, 4, none⟩ = some (.string x.tag)) ∧ (w'.cell? (a.add (m * 5)) = some (.string y.name) ∧ w'.cell? ⟨(a.add (m * 5)).block, (a.add (m * 5)).off + 1, none⟩ = some (.int .i64 y.prio) ∧ w'.cell? ⟨(a.add (m * 5)).block, (a.add (m * 5)).off + 2, none⟩ = some (.int .i64 y.need) ∧ w'.cell? ⟨(a.add (m * 5)).block, (a.add (m * 5)).off + 3, none⟩ = some (.int .i64 y.tries) ∧ w'.cell? ⟨(a.add (m * 5)).block, (a.add (m * 5)).off + 4, none⟩ = some (.string y.tag))) ∧ (wr.heap.size < w'.heap.size ∧ (a.add (m * 5)).block < w'.heap.size) ∧ Below w.heap.size w w')
              (first | assumption | exact ⟨⟨⟨c0, c1, c2, c3, c4⟩, ⟨p0, p1, p2, p3, p4⟩⟩, ⟨hb0, hpb⟩, hb1⟩ | exact ⟨⟨⟨c0, c1, c2, c3, c4⟩, ⟨p0, p1, p2, p3, p4⟩⟩, ⟨hb0, hpb⟩, hb1.drew⟩)
              (first | (go_at_call 34; (with_reducible refine (jobName_is _ _).mono ?_); rintro e w2 ⟨rfl, b2⟩; have o2 := rowS_job (b := wr.heap.size) (p := a.add (m * 5)) (x := x) (y := y) (w := w) b2 (by assumption)))
            all_goals
              rename_i o2
              have hb2 := o2.2.2
              clear o2
              go_wp2
              go_roundw
              case rel => exact ⟨m + 1 + 1, by simp, by omega, hb2, HR1⟩
              case measure => simp [intOf]; omega
          · have HR1 : Hid (R = 8) := rows_bad hil HR.out (by rw [Hxi.out]; exact HE0.out) (by rw [HY.out, Hxi.out]; exact hlt)
            rcases below_lists hlt with ⟨hl1, hl2⟩ | ⟨hl1, hl2⟩
            all_goals
              clear hlt
              go_region_held3 (fun w' => ((w'.cell? ⟨wr.heap.size, 0, none⟩ = some (.string x.name) ∧ w'.cell? ⟨wr.heap.size, 1, none⟩ = some (.int .i64 x.prio) ∧ w'.cell? ⟨wr.heap.size, 2, none⟩ = some (.int .i64 x.need) ∧ w'.cell? ⟨wr.heap.size, 3, none⟩ = some (.int .i64 x.tries) ∧ w'.cell? ⟨wr.heap.size, 4, none⟩ = some (.string x.tag)) ∧ (w'.cell? (a.add (m * 5)) = some (.string y.name) ∧ w'.cell? ⟨(a.add (m * 5)).block, (a.add (m * 5)).off + 1, none⟩ = some (.int .i64 y.prio) ∧ w'.cell? ⟨(a.add (m * 5)).block, (a.add (m * 5)).off + 2, none⟩ = some (.int .i64 y.need) ∧ w'.cell? ⟨(a.add (m * 5)).block, (a.add (m * 5)).off + 3, none⟩ = some (.int .i64 y.tries) ∧ w'.cell? ⟨(a.add (m * 5)).block, (a.add (m * 5)).off + 4, none⟩ = some (.string y.tag))) ∧ (wr.heap.size < w'.heap.size ∧ (a.add (m * 5)).block < w'.heap.size) ∧ Below w.heap.size w w')
                (first | assumption | exact ⟨⟨⟨c0, c1, c2, c3, c4⟩, ⟨p0, p1, p2, p3, p4⟩⟩, ⟨hb0, hpb⟩, hb1⟩ | exact ⟨⟨⟨c0, c1, c2, c3, c4⟩, ⟨p0, p1, p2, p3, p4⟩⟩, ⟨hb0, hpb⟩, hb1.drew⟩)
                (first | (go_at_call 34; (with_reducible refine (jobName_is _ _).mono ?_); rintro e w2 ⟨rfl, b2⟩; have o2 := rowS_job (b := wr.heap.size) (p := a.add (m * 5)) (x := x) (y := y) (w := w) b2 (by assumption)))
              all_goals
                rename_i o2
                have hb2 := o2.2.2
                clear o2
                go_wp2
                go_ret
                exact ⟨by rw [HR1.out]; rfl, hb2⟩
    · obtain rfl : i = xs.length := by omega
      have HR1 : Hid (0 = R) := by have := HR.out; rw [rowsE_end] at this; exact this
      go_wp2
      go_ret
      exact ⟨by rw [← HR1.out]; rfl, hbr⟩
theorem rowS_node {b : Nat} {p : Addr} {x y : NodeD} {w w1 w2 : World} (b2 : Below w1.heap.size w1 w2) (h : ((w1.cell? ⟨b, 0, none⟩ = some (.string x.name) ∧ w1.cell? ⟨b, 1, none⟩ = some (.int .i64 x.room) ∧ w1.cell? ⟨b, 2, none⟩ = some (.string x.zone)) ∧ (w1.cell? p = some (.string y.name) ∧ w1.cell? ⟨p.block, p.off + 1, none⟩ = some (.int .i64 y.room) ∧ w1.cell? ⟨p.block, p.off + 2, none⟩ = some (.string y.zone))) ∧ (b < w1.heap.size ∧ p.block < w1.heap.size) ∧ Below w.heap.size w w1) : ((w2.cell? ⟨b, 0, none⟩ = some (.string x.name) ∧ w2.cell? ⟨b, 1, none⟩ = some (.int .i64 x.room) ∧ w2.cell? ⟨b, 2, none⟩ = some (.string x.zone)) ∧ (w2.cell? p = some (.string y.name) ∧ w2.cell? ⟨p.block, p.off + 1, none⟩ = some (.int .i64 y.room) ∧ w2.cell? ⟨p.block, p.off + 2, none⟩ = some (.string y.zone))) ∧ (b < w2.heap.size ∧ p.block < w2.heap.size) ∧ Below w.heap.size w w2 := by
  obtain ⟨⟨⟨c0, c1, c2⟩, ⟨p0, p1, p2⟩⟩, ⟨h1, h2⟩, h3⟩ := h
  have hs := b2.size
  exact ⟨⟨⟨by rw [b2.cell (p := ⟨b, 0, none⟩) h1]; exact c0, by rw [b2.cell (p := ⟨b, 1, none⟩) h1]; exact c1, by rw [b2.cell (p := ⟨b, 2, none⟩) h1]; exact c2⟩, ⟨by rw [b2.cell h2]; exact p0, by rw [b2.cell (p := ⟨p.block, p.off + 1, none⟩) h2]; exact p1, by rw [b2.cell (p := ⟨p.block, p.off + 2, none⟩) h2]; exact p2⟩⟩, ⟨by omega, by omega⟩, below_trans h3 b2 h3.size⟩
set_option maxRecDepth 100000 in
set_option maxHeartbeats 4000000 in
theorem checkRows_node (T : World → Prop) (hTn : ∀ w w', T w → Below w.heap.size w w' → T w') (E : NodeD → Nat) (xs : List NodeD)
    (HC : ∀ x ∈ xs, ∀ w, T w → Calls Tryz.prog 36 #[.agg #[.string x.name, .int .i64 x.room, .string x.zone]] w fun e w' => e = .returned (.int .i64 (E x : Nat)) ∧ Below w.heap.size w w')
    (ad : Option Addr) (cap : Nat) (hlen : xs.length ≤ 40) (w : World) (hT : T w) (hx : NodesAt w ad xs) :
    Calls Tryz.prog 35 #[.slice ad xs.length cap, .func (.func 36) #[] #[], .func (.func 37) #[] #[]] w fun e w' => e = .returned (.int .i64 (rowsE E (·.name) none xs : Nat)) ∧ Below w.heap.size w w' := by
  obtain ⟨R, hR⟩ : ∃ R, rowsE E (·.name) none xs = R := ⟨_, rfl⟩
  rw [hR]
  have HR0 : Hid (rowsE E (·.name) (prevK (·.name) xs 0) (xs.drop 0) = R) := hR
  have HC := Lib.hid HC
  have HX := Lib.hid hx
  have HTn := Lib.hid hTn
  have HT := Lib.hid hT
  clear hR hx hTn hT
  go_enter Tryz.func35, Tryz.ntmps35
  go_wp2
  go_loopw [12] (fun iv wr => ∃ (i : Nat), iv = .int .i64 (i : Int) ∧ i ≤ xs.length ∧ Below w.heap.size w wr ∧ Hid (rowsE E (·.name) (prevK (·.name) xs i) (xs.drop i) = R)) (fun iv _ => xs.length - (intOf iv).toNat)
  case atStart => exact ⟨0, rfl, by omega, Below.refl _ _, HR0⟩
  case round =>
    obtain ⟨i, rfl, hi, hbr, HR⟩ := hrel
    by_cases h : (i : Int) < (xs.length : Int)
    · have hil : i < xs.length := by omega
      have hx := nodesAt_next HX.out hbr
      obtain ⟨a, rfl, hal, k0, k1, k2⟩ := hx i hil
      have HTr := HTn.out _ _ HT.out hbr
      obtain ⟨x, hxi⟩ : ∃ x, xs[i] = x := ⟨_, rfl⟩
      rw [hxi] at k0 k1 k2
      have hm : x ∈ xs := by rw [← hxi]; exact List.getElem_mem _
      have HCx := Lib.hid (HC.out x hm (wr.alloc (.cells #[.string x.name, .int .i64 x.room, .string x.zone] 40)) (HTn.out _ _ HTr (below_one _ _)))
      obtain ⟨e0, he0⟩ : ∃ e0, E x = e0 := ⟨_, rfl⟩
      rw [he0] at HCx
      have Hxi := Lib.hid hxi
      clear hx hxi
      go_wp2_with fail
      refine HCx.out.mono ?_
      rintro e w1 ⟨rfl, b1⟩
      have bx := box_next (box_new3 wr (.string x.name) (.int .i64 x.room) (.string x.zone) 40) b1
      have hb1 : Below w.heap.size w w1 := below_trans (hbr.alloc hbr.size _) b1 (by have := hbr.size; simp; omega)
      by_cases h0 : e0 ≠ 0
      · have HR1 : Hid (R = e0) := rows_stop hil HR.out (by rw [Hxi.out]; exact he0) h0
        have hc : ((e0 : Int) != 0) = true := by simp; omega
        go_wp2
        go_ret
        exact ⟨by rw [HR1.out]; rfl, hb1⟩
      · have h0 : e0 = 0 := by simpa using h0
        subst h0
        have c0 := bx.1 0 _ rfl
        have c1 := bx.1 1 _ rfl
        have c2 := bx.1 2 _ rfl
        have hb0 : wr.heap.size < w1.heap.size := bx.2
        have HE0 : Hid (E x = 0) := he0
        clear he0 HCx k0 k1 k2 hal
        cases i with
        | zero =>
          have HR1 : Hid (rowsE E (·.name) (prevK (·.name) xs 1) (xs.drop 1) = R) := rows_first hil HR.out (by rw [Hxi.out]; exact HE0.out)
          go_wp2_with fail
          go_region
          go_wp2
          go_roundw
          case rel => exact ⟨1, by simp, by omega, hb1.drew, HR1⟩
          case measure => simp [intOf]; omega
        | succ m =>
          obtain ⟨a', ha', hal, p0, p1, p2⟩ := nodesAt_next HX.out hb1 m (by omega)
          cases ha'
          obtain ⟨y, hy⟩ : ∃ y, xs[m] = y := ⟨_, rfl⟩
          rw [hy] at p0 p1 p2
          have hwr : IntKind.i64.wrap (m : Int) = (m : Int) := IntWalk.i64_in _ (by omega)
          have hm0 : (0 : Int) ≤ (m : Int) := by omega
          have hm1 : (m : Int) < (xs.length : Int) := by omega
          have hpb : (a.add (m * 3)).block < w1.heap.size := by rw [add_block]; exact hal
          have HY : Hid (xs[m] = y) := hy
          clear hy bx b1
          go_wp2_with fail
          by_cases hlt : lt y.name x.name
          · obtain ⟨hl1, hl2⟩ := above_lists hlt
            have HR1 : Hid (rowsE E (·.name) (prevK (·.name) xs (m + 1 + 1)) (xs.drop (m + 1 + 1)) = R) := rows_on hil HR.out (by rw [Hxi.out]; exact HE0.out) (by rw [HY.out, Hxi.out]; exact hlt)
            clear hlt
            go_region_held3 (fun w' => ((w'.cell? ⟨wr.heap.size, 0, none⟩ = some (.string x.name) ∧ w'.cell? ⟨wr.heap.size, 1, none⟩ = some (.int .i64 x.room) ∧ w'.cell? ⟨wr.heap.size, 2, none⟩ = some (.string x.zone)) ∧ (w'.cell? (a.add (m * 3)) = some (.string y.name) ∧ w'.cell? ⟨(a.add (m * 3)).block, (a.add (m * 3)).off + 1, none⟩ = some (.int .i64 y.room) ∧ w'.cell? ⟨(a.add (m * 3)).block, (a.add (m * 3)).off + 2, none⟩ = some (.string y.zone))) ∧ (wr.heap.size < w'.heap.size ∧ (a.add (m * 3)).block < w'.heap.size) ∧ Below w.heap.size w w')
              (first | assumption | exact ⟨⟨⟨c0, c1, c2⟩, ⟨p0, p1, p2⟩⟩, ⟨hb0, hpb⟩, hb1⟩ | exact ⟨⟨⟨c0, c1, c2⟩, ⟨p0, p1, p2⟩⟩, ⟨hb0, hpb⟩, hb1.drew⟩)
              (first | (go_at_call 37; (with_reducible refine (nodeName_is _ _).mono ?_); rintro e w2 ⟨rfl, b2⟩; have o2 := rowS_node (b := wr.heap.size) (p := a.add (m * 3)) (x := x) (y := y) (w := w) b2 (by assumption)))
            all_goals
              rename_i o2
              have hb2 := o2.2.2
              clear o2
              go_wp2
              go_roundw
              case rel => exact ⟨m + 1 + 1, by simp, by omega, hb2, HR1⟩
              case measure => simp [intOf]; omega
          · have HR1 : Hid (R = 8) := rows_bad hil HR.out (by rw [Hxi.out]; exact HE0.out) (by rw [HY.out, Hxi.out]; exact hlt)
            rcases below_lists hlt with ⟨hl1, hl2⟩ | ⟨hl1, hl2⟩
            all_goals
              clear hlt
              go_region_held3 (fun w' => ((w'.cell? ⟨wr.heap.size, 0, none⟩ = some (.string x.name) ∧ w'.cell? ⟨wr.heap.size, 1, none⟩ = some (.int .i64 x.room) ∧ w'.cell? ⟨wr.heap.size, 2, none⟩ = some (.string x.zone)) ∧ (w'.cell? (a.add (m * 3)) = some (.string y.name) ∧ w'.cell? ⟨(a.add (m * 3)).block, (a.add (m * 3)).off + 1, none⟩ = some (.int .i64 y.room) ∧ w'.cell? ⟨(a.add (m * 3)).block, (a.add (m * 3)).off + 2, none⟩ = some (.string y.zone))) ∧ (wr.heap.size < w'.heap.size ∧ (a.add (m * 3)).block < w'.heap.size) ∧ Below w.heap.size w w')
                (first | assumption | exact ⟨⟨⟨c0, c1, c2⟩, ⟨p0, p1, p2⟩⟩, ⟨hb0, hpb⟩, hb1⟩ | exact ⟨⟨⟨c0, c1, c2⟩, ⟨p0, p1, p2⟩⟩, ⟨hb0, hpb⟩, hb1.drew⟩)
                (first | (go_at_call 37; (with_reducible refine (nodeName_is _ _).mono ?_); rintro e w2 ⟨rfl, b2⟩; have o2 := rowS_node (b := wr.heap.size) (p := a.add (m * 3)) (x := x) (y := y) (w := w) b2 (by assumption)))
              all_goals
                rename_i o2
                have hb2 := o2.2.2
                clear o2
                go_wp2
                go_ret
                exact ⟨by rw [HR1.out]; rfl, hb2⟩
    · obtain rfl : i = xs.length := by omega
      have HR1 : Hid (0 = R) := by have := HR.out; rw [rowsE_end] at this; exact this
      go_wp2
      go_ret
      exact ⟨by rw [← HR1.out]; rfl, hbr⟩
theorem rowS_lease {b : Nat} {p : Addr} {x y : LeaseD} {w w1 w2 : World} (b2 : Below w1.heap.size w1 w2) (h : ((w1.cell? ⟨b, 0, none⟩ = some (.string x.job) ∧ w1.cell? ⟨b, 1, none⟩ = some (.string x.node) ∧ w1.cell? ⟨b, 2, none⟩ = some (.int .i64 x.til)) ∧ (w1.cell? p = some (.string y.job) ∧ w1.cell? ⟨p.block, p.off + 1, none⟩ = some (.string y.node) ∧ w1.cell? ⟨p.block, p.off + 2, none⟩ = some (.int .i64 y.til))) ∧ (b < w1.heap.size ∧ p.block < w1.heap.size) ∧ Below w.heap.size w w1) : ((w2.cell? ⟨b, 0, none⟩ = some (.string x.job) ∧ w2.cell? ⟨b, 1, none⟩ = some (.string x.node) ∧ w2.cell? ⟨b, 2, none⟩ = some (.int .i64 x.til)) ∧ (w2.cell? p = some (.string y.job) ∧ w2.cell? ⟨p.block, p.off + 1, none⟩ = some (.string y.node) ∧ w2.cell? ⟨p.block, p.off + 2, none⟩ = some (.int .i64 y.til))) ∧ (b < w2.heap.size ∧ p.block < w2.heap.size) ∧ Below w.heap.size w w2 := by
  obtain ⟨⟨⟨c0, c1, c2⟩, ⟨p0, p1, p2⟩⟩, ⟨h1, h2⟩, h3⟩ := h
  have hs := b2.size
  exact ⟨⟨⟨by rw [b2.cell (p := ⟨b, 0, none⟩) h1]; exact c0, by rw [b2.cell (p := ⟨b, 1, none⟩) h1]; exact c1, by rw [b2.cell (p := ⟨b, 2, none⟩) h1]; exact c2⟩, ⟨by rw [b2.cell h2]; exact p0, by rw [b2.cell (p := ⟨p.block, p.off + 1, none⟩) h2]; exact p1, by rw [b2.cell (p := ⟨p.block, p.off + 2, none⟩) h2]; exact p2⟩⟩, ⟨by omega, by omega⟩, below_trans h3 b2 h3.size⟩
set_option maxRecDepth 100000 in
set_option maxHeartbeats 4000000 in
theorem checkRows_lease (bj bn : Nat) (T : World → Prop) (hTn : ∀ w w', T w → Below w.heap.size w w' → T w') (E : LeaseD → Nat) (xs : List LeaseD)
    (HC : ∀ x ∈ xs, ∀ w, T w → Calls Tryz.prog 40 #[.agg #[.map (some bj), .map (some bn)], .agg #[.string x.job, .string x.node, .int .i64 x.til]] w fun e w' => e = .returned (.int .i64 (E x : Nat)) ∧ Below w.heap.size w w')
    (ad : Option Addr) (cap : Nat) (hlen : xs.length ≤ 40) (w : World) (hT : T w) (hx : LeasesAt w ad xs) :
    Calls Tryz.prog 39 #[.slice ad xs.length cap, .func (.func 40) #[.agg #[.map (some bj), .map (some bn)]] #[], .func (.func 41) #[] #[]] w fun e w' => e = .returned (.int .i64 (rowsE E (·.job) none xs : Nat)) ∧ Below w.heap.size w w' := by
  obtain ⟨R, hR⟩ : ∃ R, rowsE E (·.job) none xs = R := ⟨_, rfl⟩
  rw [hR]
  have HR0 : Hid (rowsE E (·.job) (prevK (·.job) xs 0) (xs.drop 0) = R) := hR
  have HC := Lib.hid HC
  have HX := Lib.hid hx
  have HTn := Lib.hid hTn
  have HT := Lib.hid hT
  clear hR hx hTn hT
  go_enter Tryz.func39, Tryz.ntmps39
  go_wp2
  go_loopw [12] (fun iv wr => ∃ (i : Nat), iv = .int .i64 (i : Int) ∧ i ≤ xs.length ∧ Below w.heap.size w wr ∧ Hid (rowsE E (·.job) (prevK (·.job) xs i) (xs.drop i) = R)) (fun iv _ => xs.length - (intOf iv).toNat)
  case atStart => exact ⟨0, rfl, by omega, Below.refl _ _, HR0⟩
  case round =>
    obtain ⟨i, rfl, hi, hbr, HR⟩ := hrel
    by_cases h : (i : Int) < (xs.length : Int)
    · have hil : i < xs.length := by omega
      have hx := leasesAt_next HX.out hbr
      obtain ⟨a, rfl, hal, k0, k1, k2⟩ := hx i hil
      have HTr := HTn.out _ _ HT.out hbr
      obtain ⟨x, hxi⟩ : ∃ x, xs[i] = x := ⟨_, rfl⟩
      rw [hxi] at k0 k1 k2
      have hm : x ∈ xs := by rw [← hxi]; exact List.getElem_mem _
      have HCx := Lib.hid (HC.out x hm (wr.alloc (.cells #[.string x.job, .string x.node, .int .i64 x.til] 42)) (HTn.out _ _ HTr (below_one _ _)))
      obtain ⟨e0, he0⟩ : ∃ e0, E x = e0 := ⟨_, rfl⟩
      rw [he0] at HCx
      have Hxi := Lib.hid hxi
      clear hx hxi
      go_wp2_with fail
      refine HCx.out.mono ?_
      rintro e w1 ⟨rfl, b1⟩
      have bx := box_next (box_new3 wr (.string x.job) (.string x.node) (.int .i64 x.til) 42) b1
      have hb1 : Below w.heap.size w w1 := below_trans (hbr.alloc hbr.size _) b1 (by have := hbr.size; simp; omega)
      by_cases h0 : e0 ≠ 0
      · have HR1 : Hid (R = e0) := rows_stop hil HR.out (by rw [Hxi.out]; exact he0) h0
        have hc : ((e0 : Int) != 0) = true := by simp; omega
        go_wp2
        go_ret
        exact ⟨by rw [HR1.out]; rfl, hb1⟩
      · have h0 : e0 = 0 := by simpa using h0
        subst h0
        have c0 := bx.1 0 _ rfl
        have c1 := bx.1 1 _ rfl
        have c2 := bx.1 2 _ rfl
        have hb0 : wr.heap.size < w1.heap.size := bx.2
        have HE0 : Hid (E x = 0) := he0
        clear he0 HCx k0 k1 k2 hal
        cases i with
        | zero =>
          have HR1 : Hid (rowsE E (·.job) (prevK (·.job) xs 1) (xs.drop 1) = R) := rows_first hil HR.out (by rw [Hxi.out]; exact HE0.out)
          go_wp2_with fail
          go_region
          go_wp2
          go_roundw
          case rel => exact ⟨1, by simp, by omega, hb1.drew, HR1⟩
          case measure => simp [intOf]; omega
        | succ m =>
          obtain ⟨a', ha', hal, p0, p1, p2⟩ := leasesAt_next HX.out hb1 m (by omega)
          cases ha'
          obtain ⟨y, hy⟩ : ∃ y, xs[m] = y := ⟨_, rfl⟩
          rw [hy] at p0 p1 p2
          have hwr : IntKind.i64.wrap (m : Int) = (m : Int) := IntWalk.i64_in _ (by omega)
          have hm0 : (0 : Int) ≤ (m : Int) := by omega
          have hm1 : (m : Int) < (xs.length : Int) := by omega
          have hpb : (a.add (m * 3)).block < w1.heap.size := by rw [add_block]; exact hal
          have HY : Hid (xs[m] = y) := hy
          clear hy bx b1
          go_wp2_with fail
          by_cases hlt : lt y.job x.job
          · obtain ⟨hl1, hl2⟩ := above_lists hlt
            have HR1 : Hid (rowsE E (·.job) (prevK (·.job) xs (m + 1 + 1)) (xs.drop (m + 1 + 1)) = R) := rows_on hil HR.out (by rw [Hxi.out]; exact HE0.out) (by rw [HY.out, Hxi.out]; exact hlt)
            clear hlt
            go_region_held3 (fun w' => ((w'.cell? ⟨wr.heap.size, 0, none⟩ = some (.string x.job) ∧ w'.cell? ⟨wr.heap.size, 1, none⟩ = some (.string x.node) ∧ w'.cell? ⟨wr.heap.size, 2, none⟩ = some (.int .i64 x.til)) ∧ (w'.cell? (a.add (m * 3)) = some (.string y.job) ∧ w'.cell? ⟨(a.add (m * 3)).block, (a.add (m * 3)).off + 1, none⟩ = some (.string y.node) ∧ w'.cell? ⟨(a.add (m * 3)).block, (a.add (m * 3)).off + 2, none⟩ = some (.int .i64 y.til))) ∧ (wr.heap.size < w'.heap.size ∧ (a.add (m * 3)).block < w'.heap.size) ∧ Below w.heap.size w w')
              (first | assumption | exact ⟨⟨⟨c0, c1, c2⟩, ⟨p0, p1, p2⟩⟩, ⟨hb0, hpb⟩, hb1⟩ | exact ⟨⟨⟨c0, c1, c2⟩, ⟨p0, p1, p2⟩⟩, ⟨hb0, hpb⟩, hb1.drew⟩)
              (first | (go_at_call 41; (with_reducible refine (leaseJob_is _ _).mono ?_); rintro e w2 ⟨rfl, b2⟩; have o2 := rowS_lease (b := wr.heap.size) (p := a.add (m * 3)) (x := x) (y := y) (w := w) b2 (by assumption)))
            all_goals
              rename_i o2
              have hb2 := o2.2.2
              clear o2
              go_wp2
              go_roundw
              case rel => exact ⟨m + 1 + 1, by simp, by omega, hb2, HR1⟩
              case measure => simp [intOf]; omega
          · have HR1 : Hid (R = 8) := rows_bad hil HR.out (by rw [Hxi.out]; exact HE0.out) (by rw [HY.out, Hxi.out]; exact hlt)
            rcases below_lists hlt with ⟨hl1, hl2⟩ | ⟨hl1, hl2⟩
            all_goals
              clear hlt
              go_region_held3 (fun w' => ((w'.cell? ⟨wr.heap.size, 0, none⟩ = some (.string x.job) ∧ w'.cell? ⟨wr.heap.size, 1, none⟩ = some (.string x.node) ∧ w'.cell? ⟨wr.heap.size, 2, none⟩ = some (.int .i64 x.til)) ∧ (w'.cell? (a.add (m * 3)) = some (.string y.job) ∧ w'.cell? ⟨(a.add (m * 3)).block, (a.add (m * 3)).off + 1, none⟩ = some (.string y.node) ∧ w'.cell? ⟨(a.add (m * 3)).block, (a.add (m * 3)).off + 2, none⟩ = some (.int .i64 y.til))) ∧ (wr.heap.size < w'.heap.size ∧ (a.add (m * 3)).block < w'.heap.size) ∧ Below w.heap.size w w')
                (first | assumption | exact ⟨⟨⟨c0, c1, c2⟩, ⟨p0, p1, p2⟩⟩, ⟨hb0, hpb⟩, hb1⟩ | exact ⟨⟨⟨c0, c1, c2⟩, ⟨p0, p1, p2⟩⟩, ⟨hb0, hpb⟩, hb1.drew⟩)
                (first | (go_at_call 41; (with_reducible refine (leaseJob_is _ _).mono ?_); rintro e w2 ⟨rfl, b2⟩; have o2 := rowS_lease (b := wr.heap.size) (p := a.add (m * 3)) (x := x) (y := y) (w := w) b2 (by assumption)))
              all_goals
                rename_i o2
                have hb2 := o2.2.2
                clear o2
                go_wp2
                go_ret
                exact ⟨by rw [HR1.out]; rfl, hb2⟩
    · obtain rfl : i = xs.length := by omega
      have HR1 : Hid (0 = R) := by have := HR.out; rw [rowsE_end] at this; exact this
      go_wp2
      go_ret
      exact ⟨by rw [← HR1.out]; rfl, hbr⟩
end Go.Proofs.YtiekgafopalfmaaGreatDoor
