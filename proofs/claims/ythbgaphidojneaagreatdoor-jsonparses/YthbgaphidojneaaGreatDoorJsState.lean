/- Plain facts on the JSON form of states (no program): rows and states. -/
import Derived.Test.YthbgaphidojneaaGreatDoorJsPlain
import Derived.Test.YthbgaphidojneaaGreatDoorPkSt1
namespace Go.Proofs.YthbgaphidojneaaGreatDoor

def quoteB (s : ByteArray) : List UInt8 := quoteL s.data.toList
theorem data_inj (x y : ByteArray) (h : x.data.toList = y.data.toList) : x = y := by
  apply ByteArray.ext
  exact Array.ext' h
theorem quoteB_pf : PF (fun _ : ByteArray => True) quoteB := pf_iso quote_pf (fun s : ByteArray => s.data.toList) data_inj
theorem comma_pf : PF (fun _ : Int => True) (fun n => digZ n ++ [44]) := num_pf 44 (by decide)
theorem brace_pf : PF (fun _ : Int => True) (fun n => digZ n ++ [125]) := num_pf 125 (by decide)
def jobJ (j : JobD) : List UInt8 := ([123, 34, 110, 97, 109, 101, 34, 58] ++ quoteB j.name) ++ (([44, 34, 112, 114, 105, 111, 34, 58] ++ (digZ j.prio ++ [44])) ++ (([34, 110, 101, 101, 100, 34, 58] ++ (digZ j.need ++ [44])) ++ (([34, 116, 114, 105, 101, 115, 34, 58] ++ (digZ j.tries ++ [44])) ++ ([34, 116, 97, 103, 34, 58] ++ (quoteB j.tag ++ [125])))))
def nodeJ (n : NodeD) : List UInt8 := ([123, 34, 110, 97, 109, 101, 34, 58] ++ quoteB n.name) ++ (([44, 34, 114, 111, 111, 109, 34, 58] ++ (digZ n.room ++ [44])) ++ ([34, 122, 111, 110, 101, 34, 58] ++ (quoteB n.zone ++ [125])))
def leaseJ (l : LeaseD) : List UInt8 := ([123, 34, 106, 111, 98, 34, 58] ++ quoteB l.job) ++ (([44, 34, 110, 111, 100, 101, 34, 58] ++ quoteB l.node) ++ ([44, 34, 117, 110, 116, 105, 108, 34, 58] ++ (digZ l.til ++ [125])))
theorem job_pf : PF (fun _ : JobD => True) jobJ := by
  have h := pf_seq (pf_lit [123, 34, 110, 97, 109, 101, 34, 58] quoteB_pf) (pf_seq (pf_lit [44, 34, 112, 114, 105, 111, 34, 58] comma_pf) (pf_seq (pf_lit [34, 110, 101, 101, 100, 34, 58] comma_pf) (pf_seq (pf_lit [34, 116, 114, 105, 101, 115, 34, 58] comma_pf) (pf_lit [34, 116, 97, 103, 34, 58] (pf_end [125] quoteB_pf)))))
  have k := pf_iso h (fun j : JobD => (j.name, j.prio, j.need, j.tries, j.tag)) (fun x y e => by cases x; cases y; simp only [Prod.mk.injEq] at e; obtain ⟨rfl, rfl, rfl, rfl, rfl⟩ := e; rfl)
  intro a b m n _ _ e
  exact k a b m n ⟨trivial, trivial, trivial, trivial, trivial⟩ ⟨trivial, trivial, trivial, trivial, trivial⟩ e
theorem node_pf : PF (fun _ : NodeD => True) nodeJ := by
  have h := pf_seq (pf_lit [123, 34, 110, 97, 109, 101, 34, 58] quoteB_pf) (pf_seq (pf_lit [44, 34, 114, 111, 111, 109, 34, 58] comma_pf) (pf_lit [34, 122, 111, 110, 101, 34, 58] (pf_end [125] quoteB_pf)))
  have k := pf_iso h (fun j : NodeD => (j.name, j.room, j.zone)) (fun x y e => by cases x; cases y; simp only [Prod.mk.injEq] at e; obtain ⟨rfl, rfl, rfl⟩ := e; rfl)
  intro a b m n _ _ e
  exact k a b m n ⟨trivial, trivial, trivial⟩ ⟨trivial, trivial, trivial⟩ e
theorem lease_pf : PF (fun _ : LeaseD => True) leaseJ := by
  have h := pf_seq (pf_lit [123, 34, 106, 111, 98, 34, 58] quoteB_pf) (pf_seq (pf_lit [44, 34, 110, 111, 100, 101, 34, 58] quoteB_pf) (pf_lit [44, 34, 117, 110, 116, 105, 108, 34, 58] brace_pf))
  have k := pf_iso h (fun j : LeaseD => (j.job, j.node, j.til)) (fun x y e => by cases x; cases y; simp only [Prod.mk.injEq] at e; obtain ⟨rfl, rfl, rfl⟩ := e; rfl)
  intro a b m n _ _ e
  exact k a b m n ⟨trivial, trivial, trivial⟩ ⟨trivial, trivial, trivial⟩ e
/-- The JSON form of a state. -/
def stJ (s : StD) : List UInt8 := ([123, 34, 114, 101, 118, 34, 58] ++ (digZ s.rev ++ [44])) ++ (([34, 106, 111, 98, 115, 34, 58, 91] ++ listL jobJ s.jobs) ++ (([44, 34, 110, 111, 100, 101, 115, 34, 58, 91] ++ listL nodeJ s.nodes) ++ ([44, 34, 108, 101, 97, 115, 101, 115, 34, 58, 91] ++ (listL leaseJ s.leases ++ [125]))))
theorem st_pf : PF (fun _ : StD => True) stJ := by
  have lj := list_pf job_pf (fun x => ⟨123, _, rfl, by decide⟩)
  have ln := list_pf node_pf (fun x => ⟨123, _, rfl, by decide⟩)
  have ll := list_pf lease_pf (fun x => ⟨123, _, rfl, by decide⟩)
  have h := pf_seq (pf_lit [123, 34, 114, 101, 118, 34, 58] comma_pf) (pf_seq (pf_lit [34, 106, 111, 98, 115, 34, 58, 91] lj) (pf_seq (pf_lit [44, 34, 110, 111, 100, 101, 115, 34, 58, 91] ln) (pf_lit [44, 34, 108, 101, 97, 115, 101, 115, 34, 58, 91] (pf_end [125] ll))))
  have k := pf_iso h (fun s : StD => (s.rev, s.jobs, s.nodes, s.leases)) (fun x y e => by cases x; cases y; simp only [Prod.mk.injEq] at e; obtain ⟨rfl, rfl, rfl, rfl⟩ := e; rfl)
  intro a b m n _ _ e
  exact k a b m n ⟨trivial, fun _ _ => trivial, fun _ _ => trivial, fun _ _ => trivial⟩ ⟨trivial, fun _ _ => trivial, fun _ _ => trivial, fun _ _ => trivial⟩ e
/-- Equal forms are of equal states; no form is the beginning of another one. -/
theorem stJ_inj {s t : StD} (h : stJ s = stJ t) : s = t := pf_inj st_pf trivial trivial h
theorem stJ_cut (s t : StD) {k : Nat} (hk : k < (stJ s).length) : stJ t ≠ (stJ s).take k := pf_cut st_pf trivial trivial hk
theorem stJ_more (s t : StD) {m : List UInt8} (hm : m ≠ []) : stJ t ≠ stJ s ++ m := pf_more st_pf trivial trivial hm
/-! ### sizes -/
theorem escB_len (c : UInt8) : (escB c).length ≤ 6 := by
  unfold escB
  split
  · simp
  · split <;> simp
theorem quote_len (s : ByteArray) (h : s.size ≤ 16) : (quoteB s).length ≤ 98 := by
  have h1 : ∀ l : List UInt8, (escL l).length ≤ l.length * 6 := by
    intro l
    induction l with
    | nil => simp [escL]
    | cons c l ih =>
      have := escB_len c
      simp only [escL, List.flatMap_cons, List.length_append, List.length_cons] at ih ⊢
      omega
  have h2 := h1 s.data.toList
  have h3 : s.data.toList.length = s.size := by rw [Array.length_toList]; rfl
  unfold quoteB quoteL
  simp only [List.length_cons, List.length_append, List.length_nil]
  omega
theorem digN_len (k : Nat) : ∀ n, n < 10 ^ (k + 1) → (digN n).length ≤ k + 1 := by
  induction k with
  | zero => intro n h; rw [digN_lt (by simpa using h)]; simp
  | succ k ih =>
    intro n h
    by_cases h1 : n < 10
    · rw [digN_lt h1]; simp
    · rw [digN_ge h1, List.length_append]
      have := ih (n / 10) (by rw [Nat.pow_succ] at h; omega)
      simp only [List.length_cons, List.length_nil]
      omega
end Go.Proofs.YthbgaphidojneaaGreatDoor
