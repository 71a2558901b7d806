/- The tables that hold the rows of a state by their names, as plain facts. -/
import Derived.Test.YtdbopgmckndmeaaDoorStSteps
import Derived.Test.YtdbopgmckndmeaaDoorStMap
namespace Go.Proofs.YtdbopgmckndmeaaDoor

/-- The last row of a name. -/
def lastD {α : Type} (key : α → ByteArray) (l : List α) (s : ByteArray) : Option α := l.reverse.find? fun x => decide (key x = s)
/-- What a table of the rows l holds. -/
def tabF {α : Type} (key : α → ByteArray) (V : α → Value) (l : List α) : ByteArray → Option Value := fun s => (lastD key l s).map V
theorem tabF_nil {α : Type} (key : α → ByteArray) (V : α → Value) (s : ByteArray) : tabF key V [] s = none := rfl
theorem tabF_step {α : Type} (key : α → ByteArray) (V : α → Value) (l : List α) (i : Nat) (h : i < l.length) (s : ByteArray) : putF (tabF key V (l.take i)) (key l[i]) (V l[i]) s = tabF key V (l.take (i + 1)) s := by
  unfold putF tabF lastD
  rw [List.take_succ_eq_append_getElem h, List.reverse_append, List.reverse_singleton, List.singleton_append, List.find?_cons]
  by_cases e : key l[i] = s
  · rw [if_pos e]; simp [e]
  · rw [if_neg e]; simp [e]
theorem lastD_mem {α : Type} {key : α → ByteArray} {l : List α} {s : ByteArray} {x : α} (h : lastD key l s = some x) : x ∈ l ∧ key x = s := by
  have h1 := List.mem_of_find?_eq_some h
  have h2 := List.find?_some h
  exact ⟨List.mem_reverse.1 h1, by simpa using h2⟩
theorem lastD_isSome {α : Type} (key : α → ByteArray) (l : List α) (s : ByteArray) : (lastD key l s).isSome = l.any fun x => decide (key x = s) := by
  unfold lastD
  rw [Bool.eq_iff_iff, List.find?_isSome, List.any_eq_true]
  constructor
  · rintro ⟨x, h1, h2⟩; exact ⟨x, List.mem_reverse.1 h1, h2⟩
  · rintro ⟨x, h1, h2⟩; exact ⟨x, List.mem_reverse.2 h1, h2⟩
theorem tabF_job (V : JobD → Value) (l : List JobD) (s : ByteArray) : (tabF (·.name) V l s).isSome = hasJob l s := by
  unfold tabF hasJob; rw [Option.isSome_map]; exact lastD_isSome _ _ _
theorem tabF_node (V : NodeD → Value) (l : List NodeD) (s : ByteArray) : (tabF (·.name) V l s).isSome = hasNode l s := by
  unfold tabF hasNode; rw [Option.isSome_map]; exact lastD_isSome _ _ _
def zeroJ : JobD := ⟨⟨#[]⟩, 0, 0, 0, ⟨#[]⟩⟩
def zeroN : NodeD := ⟨⟨#[]⟩, 0, ⟨#[]⟩⟩
def pickJ (l : List JobD) (s : ByteArray) : JobD := (lastD (·.name) l s).getD zeroJ
def pickN (l : List NodeD) (s : ByteArray) : NodeD := (lastD (·.name) l s).getD zeroN
theorem tabF_pickJ (V : JobD → Value) (l : List JobD) (s : ByteArray) : (tabF (·.name) V l s).getD (V zeroJ) = V (pickJ l s) := by
  unfold tabF pickJ
  cases lastD (·.name) l s <;> rfl
theorem tabF_pickN (V : NodeD → Value) (l : List NodeD) (s : ByteArray) : (tabF (·.name) V l s).getD (V zeroN) = V (pickN l s) := by
  unfold tabF pickN
  cases lastD (·.name) l s <;> rfl
theorem pickJ_need {l : List JobD} (h : Asc (·.name) l) (s : ByteArray) : (pickJ l s).need = needOf l s := by
  unfold pickJ
  cases e : lastD (·.name) l s with
  | none =>
    have : (lastD (·.name) l s).isSome = false := by rw [e]; rfl
    rw [lastD_isSome] at this
    rw [needOf_none this]; rfl
  | some j =>
    obtain ⟨h1, h2⟩ := lastD_mem e
    have := needOf_mem h h1
    rw [h2] at this
    exact this.symm
/-- The sums: at each node what is used of it. -/
def sumF (jobs : List JobD) (l : List LeaseD) : ByteArray → Option Value := fun s => if l.any (fun x => decide (x.node = s)) then some (.int .i64 (usedD jobs l s)) else none
theorem used_none {jobs : List JobD} {l : List LeaseD} {s : ByteArray} (h : l.any (fun x => decide (x.node = s)) = false) : usedD jobs l s = 0 := by
  unfold usedD
  rw [sumZ_congr (g := fun _ => 0), sumZ_zero]
  intro x hx
  rw [List.any_eq_false] at h
  have := h x hx
  simp only [decide_eq_true_eq] at this
  exact if_neg this
theorem sumF_nil (jobs : List JobD) (s : ByteArray) : sumF jobs [] s = none := rfl
theorem sumF_get (jobs : List JobD) (l : List LeaseD) (s : ByteArray) : (sumF jobs l s).getD (.int .i64 0) = .int .i64 (usedD jobs l s) := by
  unfold sumF
  by_cases h : l.any (fun x => decide (x.node = s)) = true
  · rw [if_pos h]; rfl
  · rw [if_neg h, used_none (by simpa using h)]; rfl
theorem used_step (jobs : List JobD) (l : List LeaseD) (i : Nat) (h : i < l.length) (s : ByteArray) : usedD jobs (l.take (i + 1)) s = usedD jobs (l.take i) s + if l[i].node = s then needOf jobs l[i].job else 0 := by
  unfold usedD
  rw [sumZ_take _ _ _ h]; rfl
theorem sumF_step (jobs : List JobD) (l : List LeaseD) (i : Nat) (h : i < l.length) (s : ByteArray) : putF (sumF jobs (l.take i)) l[i].node (.int .i64 (usedD jobs (l.take i) l[i].node + needOf jobs l[i].job)) s = sumF jobs (l.take (i + 1)) s := by
  have e2 : (l.take (i + 1)).any (fun x => decide (x.node = s)) = ((l.take i).any (fun x => decide (x.node = s)) || decide (l[i].node = s)) := by
    rw [List.take_succ_eq_append_getElem h, List.any_append]; simp
  unfold putF sumF
  rw [e2, used_step jobs l i h s]
  by_cases e : l[i].node = s
  · subst e; simp
  · rw [if_neg e]; simp [e]
theorem used_take_bd (U : ByteArray → Bool) {jobs : List JobD} (h : ∀ j ∈ jobs, jobE U j = 0) (node : ByteArray) (l : List LeaseD) (hl : l.length ≤ 40) (i : Nat) : 0 ≤ usedD jobs (l.take i) node ∧ usedD jobs (l.take i) node ≤ 40000000 := by
  have h1 := used_bd U h node (l.take i)
  have h2 : (l.take i).length ≤ 40 := Nat.le_trans (by rw [List.length_take]; omega) hl
  omega
end Go.Proofs.YtdbopgmckndmeaaDoor
